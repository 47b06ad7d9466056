/- Bind at variables that stand. -/
import Derived.Test.YtgkblfegjmeolaaVaRow
namespace Go.Proofs.Ytgkblfegjmeolaa
open Go.RowKit Go.Lib
theorem info_parts {P : Program} {t : TypeId} {z : Option Value} {s b : Nat} (h : (P.info? t).map (fun i => (i.zero, i.size, i.bytes)) = some (z, s, b)) : ∃ i, P.info? t = some i ∧ i.zero = z ∧ i.size = s ∧ i.bytes = b := by
  cases hi : P.info? t with
  | none => rw [hi] at h; cases h
  | some i =>
    rw [hi] at h
    simp at h
    exact ⟨i, rfl, h.1, h.2.1, h.2.2⟩
/-- What Bind needs of the world in which its word is boxed. -/
structure BReady (wb : World) (vb : Nat) (G : Nat → Nat) (m : Vs) (cm mm : Nat) (a : Option Addr) (n c : Nat) (bs : List Bd) : Prop where
  vars : VarsAt wb vb G m
  cells : ∀ X, Below wb.heap.size wb X → X.cell? ⟨vb, 0, none⟩ = some (.map (some cm)) ∧ X.cell? ⟨vb, 3, none⟩ = some (.slice a n c) ∧ X.frozen? ⟨vb, 3, none⟩ = false
  len : n = m.binds.length
  row : Row wb G 4 68 4 (.slice a n c) n (bcells bs)
  content : ∀ X k j, Below wb.heap.size wb X → k ≤ 65536 → j < 16384 → Calls Try.prog 43 #[.map (some cm), .int .i64 (k : Nat), .int .i64 (j : Nat)] X fun e w' => e = .returned (cag (m.at k j)) ∧ Below X.heap.size X w'
  fin : ∀ (W w1 : World) (v' : Value) (b : Bd), Below wb.heap.size wb W → Row w1 (fun k => if k < W.heap.size then G k else 4) 4 68 4 v' (n + 1) (bcells bs ++ bcells [b]) → W.grownBy w1 (Value.slice a n c).ownBlock →
      PQ W wb.heap.size b → b.k ≤ 65536 → b.n < 16384 → b.c = m.at b.k b.n → VWent wb (w1.setCell ⟨vb, 3, none⟩ v') vb G (m.bound b.k b.n)
theorem VarsAt.bready {wb : World} {vb : Nat} {G : Nat → Nat} {m : Vs} (h : VarsAt wb vb G m) : ∃ cm mm a n c bs, BReady wb vb G m cm mm a n c bs := by
  obtain ⟨cm, mm, a, n, c, bs, h1, hl, h6, hfin⟩ := h.bindRow
  obtain ⟨cm', mm', bv', sc, cb, e1, e2, _⟩ := h.celled
  rw [h1] at e1
  have e3 : cm' = cm := by
    injection e1 with e1
    injection e1 with e1
    injection e1 with e1
    injection e1 with e1
    injection e1 with e1
    injection e1 with e1
    exact e1.symm
  subst e3
  exact ⟨cm', mm, a, n, c, bs, h, fun X hX => ⟨(cell_at ((hX.block _ (lt_at h1)).trans h1)).trans rfl, (cell_at ((hX.block _ (lt_at h1)).trans h1)).trans rfl, frozen_at ((hX.block _ (lt_at h1)).trans h1)⟩, hl, h6,
    fun X k j hX hk hj => content_any (e2.below hX) k j hk hj, hfin⟩
theorem bnews (X : World) (x : Cl) (b : Bd) : ∀ (j : Nat) (u : Value), [Value.int .i64 x.1.1, .int .i64 x.1.2, .bool x.2, bfun b][j]? = some u → (X.alloc (.cells #[.int .i64 x.1.1, .int .i64 x.1.2, .bool x.2, bfun b] 68)).cell? ((⟨X.heap.size, 0, none⟩ : Addr).add j) = some u := by
  intro j u hj
  match j, hj with
  | 0, hj => simp at hj; subst hj; simp [Addr.add]
  | 1, hj => simp at hj; subst hj; simp [Addr.add]
  | 2, hj => simp at hj; subst hj; simp [Addr.add]
  | 3, hj => simp at hj; subst hj; simp [Addr.add]
  | (j + 4), hj => simp at hj
theorem VWent.trans {a b c : World} {vb : Nat} {G G1 : Nat → Nat} {m2 : Vs} (hk : Keeps G a b) (hg : ∀ k, k < a.heap.size → (G1 k = 0 ↔ G k = 0)) (h : VWent b c vb G1 m2) : VWent a c vb G m2 := by
  obtain ⟨h1, G2, h2, h3⟩ := h
  have hs := hk.size
  exact ⟨hk.trans h1 (fun i hi hz => (hg i hi).2 hz), G2, h2, fun k hk' => (h3 k (by omega)).trans (hg k hk')⟩
theorem PQ.mono {w : World} {B B' : Nat} {b : Bd} (h : PQ w B b) (hB : B' ≤ B) : PQ w B' b := ⟨Nat.le_trans hB h.lp, Nat.le_trans hB h.lq, h.p, h.q⟩
theorem BReady.app {wb X w9 : World} {vb : Nat} {G : Nat → Nat} {m : Vs} {cm mm : Nat} {a : Option Addr} {l c : Nat} {bs : List Bd} (h : BReady wb vb G m cm mm a l c bs) (hX : Below wb.heap.size wb X) (o : Obj) {k n p q : Nat}
    (hp : PQ X wb.heap.size ⟨k, n, m.at k n, p, q⟩) (hk : k ≤ 65536) (hn : n < 16384) {v' : Value} (hrow : Row w9 (fun j => if j < (X.alloc o).heap.size then G j else 4) 4 68 4 v' (l + 1) (bcells bs ++ [.int .i64 (m.at k n).1.1, .int .i64 (m.at k n).1.2, .bool (m.at k n).2, bfun ⟨k, n, m.at k n, p, q⟩])) (hgr : (X.alloc o).grownBy w9 (Value.slice a l c).ownBlock) :
    ∃ g cap, v' = .slice (some ⟨g, 0, none⟩) (l + 1) cap ∧ w9.cell? ⟨vb, 3, none⟩ = some (.slice a l c) ∧ w9.frozen? ⟨vb, 3, none⟩ = false ∧ VWent wb (w9.setCell ⟨vb, 3, none⟩ (.slice (some ⟨g, 0, none⟩) (l + 1) cap)) vb G (m.bound k n) := by
  have hXo := hX.alloc hX.size o
  obtain ⟨g, cap, cur, rfl, _⟩ := hrow.at (by omega)
  have hvl := h.vars.lt
  have hbl : w9.heap[vb]? = (X.alloc o).heap[vb]? := hgr.block vb (Nat.lt_of_lt_of_le hvl hXo.size) (fun e => by have := h.row.lab vb e.symm; rw [h.vars.lab] at this; cases this)
  obtain ⟨_, c3, f3⟩ := h.cells _ hXo
  exact ⟨g, cap, rfl, (World.cell?_of_block (a := ⟨vb, 3, none⟩) hbl).trans c3, (World.frozen?_of_block (a := ⟨vb, 3, none⟩) hbl).trans f3, h.fin _ _ _ ⟨k, n, m.at k n, p, q⟩ hXo hrow hgr (hp.below ((Below.refl _ _).alloc (Nat.le_refl _) o)) hk hn rfl⟩
set_option maxHeartbeats 4000000 in
set_option maxRecDepth 100000 in
theorem bind_ok {w : World} {vb : Nat} {G : Nat → Nat} {m : Vs} (h : VarsAt w vb G m) (n : Nat) (hn : n < 16384) (hc : m.cnt ≤ 1000000) (hC : hasC (m.marks n) = false) (x : Wd) (hl : m.binds.length < 2000) :
    Calls Try.prog 17 #[hptr vb, .int .i64 n, wv x] w fun e w' => e = .returned (.int .i64 0) ∧ VWent w w' vb G ((m.bound (m.home n) n).put (m.home n) n (x, true)) := by
  obtain ⟨i0, hi0, hz0, hz1, hz2⟩ := info_parts info_bind
  have hb : Below w.heap.size w (w.alloc (.cells #[.int .i64 x.1, .int .i64 x.2] 28)) := (Below.refl _ _).alloc (Nat.le_refl _) _
  have a0 := alloc_at w (.cells #[.int .i64 x.1, .int .i64 x.2] 28)
  have hv := h.below hb
  obtain ⟨cm, mm, a, l, c, bs, hR⟩ := hv.bready
  have hll : l < 2000 := by rw [hR.len]; exact hl
  have cK := change_any hv n hn
  rw [hC] at cK
  have HN := Lib.hid (And.intro hn (And.intro (h.home_le n) (And.intro hc (And.intro hb (And.intro a0 (h.new w.heap.size (Nat.le_refl _)))))))
  have HR := Lib.hid hR
  have CK := Lib.hid cK
  have hle : ((l : Int) == 2000) = false := by rw [beq_eq_false_iff_ne]; omega
  obtain ⟨c0, c3, f3⟩ := hR.cells _ (Below.refl _ _)
  clear h hn hc hC hR cK hl hb hv
  go_enter Try.func17, Try.ntmps17
  go_wp2_with fail
  have HA := Lib.hid a0
  clear a0
  generalize w.alloc (.cells #[.int .i64 x.1, .int .i64 x.2] 28) = wb at *
  refine CK.out.mono ?_
  rintro e w1 ⟨rfl, rfl⟩
  go_wp2_with fail
  refine (home_any HR.out.vars n HN.out.1).mono ?_
  rintro e w2 ⟨rfl, q, rfl⟩
  go_wp2_with fail
  have HK := Lib.hid (show Below w1.heap.size w1 (w1.drewN (q + 1)) from below_drewN w1 _)
  have hl1 : l + 1 ≤ maxLen := by unfold maxLen; omega
  have hl2 : (l + 1) * 32 ≤ 140737488355328 := by omega
  go_region_law (first
    | (refine step_append_row rfl _ _ 56 rfl 68 i0 (.agg #[.int .i64 0, .int .i64 0, .bool false, .nilFunc]) 4 32 Try.underlying56 hi0 hz0 hz1 hz2 rfl (by decide) _ _ _ rfl G 4 (HR.out.row.keep (fun k hk _ => (HK.out.alloc HK.out.size _).block k hk) (fun _ _ e => e)) ⟨_, 0, none⟩ 1 1 [.int .i64 (m.at (m.home n) n).1.1, .int .i64 (m.at (m.home n) n).1.2, .bool (m.at (m.home n) n).2, bfun ⟨m.home n, n, m.at (m.home n) n, p, q9⟩] rfl rfl (bnews _ _ _) (by simp [Value.oneCell']) hl1 hl2 ?_; intro v' w9 hrow hgr _; obtain ⟨g, cap, rfl, k3, r3, hV⟩ := HR.out.app HK.out _ HP.out HN.out.2.1 HN.out.1 hrow hgr; have HV := Lib.hid hV; clear hrow hgr hV)
    | (go_simp; go_at_call 43; (with_reducible refine (HR.out.content _ _ _ HK.out HN.out.2.1 HN.out.1).mono ?_); rintro e wq ⟨rfl, hbe⟩; (first | (have HP2 := Lib.hid (HP.out.below hbe); clear HP; have HP := HP2; clear HP2) | skip); have HK2 := Lib.hid (HK.out.trans (hbe.mono HK.out.size)); clear HK hbe; have HK := HK2; clear HK2; obtain ⟨z0, z3, zf⟩ := HR.out.cells _ HK.out; have za := fun o => (HR.out.cells _ (HK.out.alloc HK.out.size o)).2.1)
    | (go_simp; go_at_call 47; (with_reducible refine (restorer_any _ _ (m.at (m.home n) n) _).mono ?_); rintro e wq ⟨p, q9, rfl, hp, hbe⟩; have HP := Lib.hid (hp.mono HK.out.size); have HK2 := Lib.hid (HK.out.trans (hbe.mono HK.out.size)); clear HK hbe hp; have HK := HK2; clear HK2; obtain ⟨z0, z3, zf⟩ := HR.out.cells _ HK.out; have za := fun o => (HR.out.cells _ (HK.out.alloc HK.out.size o)).2.1))
  all_goals
    obtain ⟨hk8, G8, hv8, hg8⟩ := HV.out
    have hc8 := (hk8.block w.heap.size (lt_at HN.out.2.2.2.2.1) HN.out.2.2.2.2.2).trans HN.out.2.2.2.2.1
    generalize w9.setCell ⟨vb, 3, none⟩ (.slice (some ⟨g, 0, none⟩) (l + 1) cap) = W at *
    obtain ⟨cm8, hS8⟩ := hv8.stor (by simp only [Vs.bound]; exact HN.out.2.2.1)
    have hcells : ∀ X, Below W.heap.size W X → X.cell? ⟨vb, 0, none⟩ = some (.map (some cm8)) ∧ X.cell? ⟨w.heap.size, 0, none⟩ = some (.int .i64 x.1) ∧ X.cell? ⟨w.heap.size, 1, none⟩ = some (.int .i64 x.2) := fun X hX =>
      ⟨hS8.cell X hX, (cell_at ((hX.block _ (lt_at hc8)).trans hc8)).trans rfl, (cell_at ((hX.block _ (lt_at hc8)).trans hc8)).trans rfl⟩
    have hafter : ∀ X m2, VWent W X vb G8 m2 → VWent w X vb G m2 ∧ X.cell? ⟨w.heap.size, 0, none⟩ = some (.int .i64 x.1) ∧ X.cell? ⟨w.heap.size, 1, none⟩ = some (.int .i64 x.2) := fun X m2 hX => by
      have e1 := (hX.keeps.block w.heap.size (lt_at hc8) ((hg8 _ (lt_at HN.out.2.2.2.2.1)).2 HN.out.2.2.2.2.2)).trans hc8
      exact ⟨VWent.after HN.out.2.2.2.1 (VWent.trans hk8 hg8 hX), (cell_at e1).trans rfl, (cell_at e1).trans rfl⟩
    have HS := Lib.hid (And.intro hS8 (And.intro hcells hafter))
    clear hk8 hv8 hg8 hc8 hS8 hcells hafter HV HP HK z0 z3 zf za k3 r3
    go_wp2_with fail
    have HK := Lib.hid (show Below W.heap.size W W.drew from (Below.refl _ _).drew)
    go_region_held3 (fun X => X.cell? ⟨vb, 0, none⟩ = some (.map (some cm8)) ∧ X.cell? ⟨w.heap.size, 0, none⟩ = some (.int .i64 x.1) ∧ X.cell? ⟨w.heap.size, 1, none⟩ = some (.int .i64 x.2))
      (first | with_reducible exact HS.out.2.1 _ HK.out | with_reducible exact HZ.out)
      (first
        | (go_at_call 37; (with_reducible refine (full_any x _).mono ?_); rintro e wq2 ⟨rfl, hb2⟩; have HK2 := Lib.hid (HK.out.trans (hb2.mono HK.out.size)); clear HK hb2; have HK := HK2; clear HK2)
        | (go_at_call 36; (with_reducible refine (HS.out.1.store _ (m.home n : Int) (n : Int) (m.home n) n _ HK.out rfl rfl HN.out.2.1 HN.out.1).mono ?_); rintro e wq2 ⟨rfl, hV, hz⟩; obtain ⟨hV2, hz2⟩ := HS.out.2.2 _ _ hV; have HV := Lib.hid hV2; have HZ := Lib.hid (And.intro hz hz2); clear hV hz hV2 hz2))
    go_wp2
    go_ret
    exact ⟨rfl, HV.out⟩
end Go.Proofs.Ytgkblfegjmeolaa
