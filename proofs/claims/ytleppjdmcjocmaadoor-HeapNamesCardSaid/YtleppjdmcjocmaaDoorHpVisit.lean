/- The closure that Collect's walk calls for each word: what it marks, what it lays on the stack. -/
import Derived.Test.YtleppjdmcjocmaaDoorHpAdd4
namespace Go.Proofs.YtleppjdmcjocmaaDoor
open Go.RowKit Go.Lib
/-- The words of an object. -/
def Ob.words : Ob → List Wd
  | .pair a d => [a, d]
  | .text .. => []
  | .vec l => l
  | .code _ _ _ _ cs => cs
def bools (l : List Bool) : List Value := l.map Value.bool
/-- To visit a word: the marks and the stack behind it. -/
def Hp.visit (m : Hp) (s : List Bool × List Nat) (x : Wd) : List Bool × List Nat :=
  match m.find x with
  | none => s
  | some _ => if s.1[x.2.toNat]? = some false then (s.1.set x.2.toNat true, s.2 ++ [x.2.toNat]) else s
/-- How the walk's variables lie: h, the marks, the stack; all in blocks that are younger than W0. -/
structure Dfs (W0 w : World) (hb : Nat) (G : Nat → Nat) (m : Hp) (bh br bs : Nat) (s : List Bool × List Nat) : Prop where
  below : Below W0.heap.size W0 w
  len : s.1.length = m.obs.length
  room : s.2.length + s.1.count false ≤ m.obs.length
  lies : ∃ (D : Nat → Nat) (rv sv : Value) (vs : List Value), D bh = 1 ∧ D br = 2 ∧ D bs = 3 ∧ (∀ k, k < W0.heap.size → D k = 0) ∧ (∀ k, w.heap.size ≤ k → D k = 0) ∧
    w.heap[bh]? = some (.cells #[hptr hb] 23 (0, 0)) ∧ w.heap[br]? = some (.cells #[rv] 56 (0, 0)) ∧ w.heap[bs]? = some (.cells #[sv] 64 (0, 0)) ∧
    Row w D 4 4 1 rv m.obs.length (bools s.1) ∧ Row w D 5 80 1 sv s.2.length vs ∧
    ∀ (j i : Nat), s.2[j]? = some i → ∃ (o : Ob) (v : Value), m.obs[i]? = some (some o) ∧ vs[j]? = some v ∧ ObAt W0 G (4 + i) v o
theorem Dfs.move {W0 w w' : World} {hb : Nat} {G : Nat → Nat} {m : Hp} {bh br bs : Nat} {s : List Bool × List Nat} (h : Dfs W0 w hb G m bh br bs s) (hw : Below w.heap.size w w') : Dfs W0 w' hb G m bh br bs s := by
  obtain ⟨h1, h2, h3, D, rv, sv, vs, d1, d2, d3, d4, d5, k1, k2, k3, r1, r2, hv⟩ := h
  refine ⟨h1.trans (hw.mono h1.size), h2, h3, D, rv, sv, vs, d1, d2, d3, d4, fun k hk => d5 k (Nat.le_trans hw.size hk), (hw.block _ (lt_at k1)).trans k1, (hw.block _ (lt_at k2)).trans k2, (hw.block _ (lt_at k3)).trans k3,
    r1.keep (fun k hk _ => hw.block k hk) (fun _ _ e => e), r2.keep (fun k hk _ => hw.block k hk) (fun _ _ e => e), hv⟩
theorem count_set_false : ∀ (l : List Bool) (i : Nat), l[i]? = some false → (l.set i true).count false + 1 = l.count false
  | [], i, h => by simp at h
  | b :: l, 0, h => by simp at h; subst h; simp
  | b :: l, i + 1, h => by
    have := count_set_false l i (by simpa using h)
    cases b <;> simp <;> omega
set_option maxHeartbeats 1000000 in
theorem visit_none {W0 w : World} {hb : Nat} {G : Nat → Nat} {m : Hp} {bh br bs : Nat} {s : List Bool × List Nat} (x : Wd) (h0 : HeapAt W0 hb G m) (h : Dfs W0 w hb G m bh br bs s) (hx : m.find x = none) :
    Calls Tryd.prog 55 #[wv x, .pointer (some ⟨bh, 0, none⟩), .pointer (some ⟨br, 0, none⟩), .pointer (some ⟨bs, 0, none⟩)] w fun e w' => e = .returned (.tuple #[]) ∧ Dfs W0 w' hb G m bh br bs s := by
  have hbx := h.below.alloc h.below.size (.cells #[.int .i64 x.1, .int .i64 x.2] 28)
  have hfn := find_none (h0.below hbx) x hx
  have H := Lib.hid h
  obtain ⟨h1, h2, h3, D, rv, sv, vs, d1, d2, d3, d4, d5, k1, k2, k3, r1, r2, hv⟩ := h
  have c1 : w.cell? ⟨bh, 0, none⟩ = some (hptr hb) := cell_at k1
  have z1 := lt_at k1
  clear hbx h1 h2 h3 d1 d2 d3 d4 d5 k1 k2 k3 r1 r2 hv
  go_enter Tryd.func55, Tryd.ntmps55
  go_wp2_with fail
  refine hfn.mono ?_
  rintro e W1 ⟨rfl, hW1⟩
  have HW := Lib.hid hW1
  clear hW1 hfn
  go_wp2
  go_end0
  exact ⟨rfl, H.out.move (((Below.refl _ _).alloc (Nat.le_refl _) _).trans (HW.out.mono (by simp)))⟩
set_option maxHeartbeats 2000000 in
set_option maxRecDepth 20000 in
theorem visit_some {W0 w : World} {hb : Nat} {G : Nat → Nat} {m : Hp} {bh br bs : Nat} {s : List Bool × List Nat} (x : Wd) (h0 : HeapAt W0 hb G m) (h : Dfs W0 w hb G m bh br bs s) (o : Ob) (hx : m.find x = some o) :
    Calls Tryd.prog 55 #[wv x, .pointer (some ⟨bh, 0, none⟩), .pointer (some ⟨br, 0, none⟩), .pointer (some ⟨bs, 0, none⟩)] w fun e w' => e = .returned (.tuple #[]) ∧ Dfs W0 w' hb G m bh br bs (m.visit s x) := by
  have hbx := h.below.alloc h.below.size (.cells #[.int .i64 x.1, .int .i64 x.2] 28)
  obtain ⟨v, ho, hov, hfn⟩ := find_some (h0.below hbx) x o hx
  have hvs : m.visit s x = if s.1[x.2.toNat]? = some false then (s.1.set x.2.toNat true, s.2 ++ [x.2.toNat]) else s := by simp only [Hp.visit, hx]
  obtain ⟨s', hs'⟩ : ∃ s', s' = m.visit s x := ⟨_, rfl⟩
  rw [← hs']
  rw [hvs] at hs'
  clear hvs
  have hx0 : 0 ≤ x.2 := by
    apply Classical.byContradiction
    intro hn
    simp [Hp.find, hn] at hx
  obtain ⟨k, i⟩ := x
  obtain ⟨i, rfl⟩ := Int.eq_ofNat_of_zero_le (a := i) hx0
  simp only [Int.toNat_natCast] at ho hov hs'
  have hi : i < m.obs.length := (List.getElem?_eq_some_iff.1 ho).1
  have hov0 : ObAt W0 G (4 + i) v o := hov.keep (by omega) (fun k hk e => (hbx.block k (by
    apply Classical.byContradiction
    intro hn
    have := h0.new k (by omega)
    omega)).symm) (fun _ _ e => e)
  obtain ⟨T, p, rfl, _⟩ := hov.iface
  obtain ⟨h1, h2, h3, D, rv, sv, vs, d1, d2, d3, d4, d5, k1, k2, k3, r1, r2, hv⟩ := h
  obtain ⟨rb, cap, rcur, rfl, lr, kr, hnc, hcm, hcs, htk⟩ := r1.at (by omega)
  obtain ⟨as', cs', rfl⟩ := r2.slice
  have him : i < s.1.length := by omega
  obtain ⟨b, hb1⟩ : ∃ b, s.1[i]? = some b := ⟨_, List.getElem?_eq_getElem him⟩
  have cb : w.cell? ⟨rb, i, none⟩ = some (.bool b) := r1.cell (by simp [bools, hb1])
  have ch : w.cell? ⟨bh, 0, none⟩ = some (hptr hb) := cell_at k1
  have zh := lt_at k1
  have H := Lib.hid (And.intro h1 (And.intro h2 (And.intro h3 (And.intro d1 (And.intro d2 (And.intro d3 (And.intro d4 (And.intro d5 (And.intro k1 (And.intro k2 (And.intro k3 (And.intro r1 (And.intro r2 hv)))))))))))))
  have HO := Lib.hid (And.intro ho hov0)
  have HB := Lib.hid (And.intro hb1 (And.intro kr lr))
  have HC := Lib.hid cb
  have HS := Lib.hid hs'
  clear hs' hbx hx hx0 h1 h2 h3 d1 d2 d3 d4 d5 k1 k2 k3 r1 r2 hv ho hov hov0 hb1 kr lr hnc hcm hcs htk cb
  go_enter Tryd.func55, Tryd.ntmps55
  go_wp2_with fail
  refine hfn.mono ?_
  rintro e W1 ⟨rfl, hW1⟩
  have hW : Below w.heap.size w W1 := ((Below.refl _ _).alloc (Nat.le_refl _) _).trans (hW1.mono (by simp))
  have kx : W1.heap[w.heap.size]? = some (.cells #[.int .i64 k, .int .i64 i] 28 (0, 0)) := (hW1.block _ (by simp)).trans (alloc_at w _)
  have q1 := (hW.block _ (lt_at H.out.2.2.2.2.2.2.2.2.2.1)).trans H.out.2.2.2.2.2.2.2.2.2.1
  have q2 := (hW.block _ (lt_at H.out.2.2.2.2.2.2.2.2.2.2.1)).trans H.out.2.2.2.2.2.2.2.2.2.2.1
  have qr := (hW.block _ (lt_at HB.out.2.1)).trans HB.out.2.1
  have c1 : W1.cell? ⟨w.heap.size, 1, none⟩ = some (.int .i64 i) := cell_at kx
  have c2 : W1.cell? ⟨br, 0, none⟩ = some (.slice (some ⟨rb, 0, none⟩) m.obs.length cap) := cell_at q1
  have c3 : W1.cell? ⟨rb, i, none⟩ = some (.bool b) := (hW.cell (p := ⟨rb, i, none⟩) (lt_at HB.out.2.1)).trans HC.out
  have HW := Lib.hid (And.intro hW (And.intro q1 (And.intro q2 qr)))
  clear hW kx q1 q2 qr hfn hW1 ch zh
  cases b
  · obtain ⟨i0, hi0, hz0, hz1, hz2⟩ := info_parts info_ob
    have f3 : W1.frozen? ⟨rb, i, none⟩ = false := frozen_at HW.out.2.2.2
    have c4 : W1.cell? ⟨bs, 0, none⟩ = some (.slice as' s.2.length cs') := cell_at HW.out.2.2.1
    have n1 : bs ≠ rb := fun e => by have := H.out.2.2.2.2.2.1; have := HB.out.2.2; rw [← e] at this; omega
    have n2 : w.heap.size ≠ rb := fun e => by have := lt_at HB.out.2.1; omega
    have n3 : br ≠ rb := fun e => by have := H.out.2.2.2.2.1; have := HB.out.2.2; rw [← e] at this; omega
    have z3 := lt_at HW.out.2.2.1
    have hsz : (W1.setCell ⟨rb, i, none⟩ (.bool true)).heap.size = W1.heap.size := by simp [World.setCell]
    have hgb : ∀ k, k < W1.heap.size → D k = 5 → ((W1.setCell ⟨rb, i, none⟩ (.bool true)).alloc (.cells #[.iface T (.pointer (some ⟨p, 0, none⟩))] 80)).heap[k]? = w.heap[k]? := by
      intro k hk e
      have hkw : k < w.heap.size := by
        apply Classical.byContradiction
        intro hn
        have := H.out.2.2.2.2.2.2.2.1 k (by omega)
        omega
      rw [Below.heap_alloc _ _ _ (hsz ▸ hk), setCell_off _ (by intro e2; subst e2; have := HB.out.2.2; omega)]
      exact HW.out.1.block k hkw
    have hr5 : Row ((W1.setCell ⟨rb, i, none⟩ (.bool true)).alloc (.cells #[.iface T (.pointer (some ⟨p, 0, none⟩))] 80)) D 5 80 1 (.slice as' s.2.length cs') s.2.length vs :=
      H.out.2.2.2.2.2.2.2.2.2.2.2.2.1.keep (fun k hk e => hgb k (Nat.lt_of_lt_of_le hk HW.out.1.size) e) (fun _ _ e => e)
    have hn5 : s.2.length + 1 ≤ 65536 := by
      have h7 := H.out.2.2.1
      have h8 := h0.ok.len
      have h9 := h0.ok.lim2
      have : 0 < s.1.count false := List.count_pos_iff.2 (List.mem_of_getElem? HB.out.1)
      omega
    have HG := Lib.hid hgb
    have hka : ((W1.setCell ⟨rb, i, none⟩ (.bool true)).alloc (.cells #[.iface T (.pointer (some ⟨p, 0, none⟩))] 80)).cell? ⟨W1.heap.size, 0, none⟩ = some (.iface T (.pointer (some ⟨p, 0, none⟩))) := by
      have h := alloc_at (W1.setCell ⟨rb, i, none⟩ (.bool true)) (.cells #[.iface T (.pointer (some ⟨p, 0, none⟩))] 80)
      rw [hsz] at h
      exact cell_at h
    have HKA := Lib.hid hka
    clear hgb hsz hka
    go_wp2_with (at_builtin; refine wpList_append_row _ rfl _ _ 64 rfl 80 i0 .nilIface 1 16 Tryd.underlying64 hi0 hz0 hz1 hz2 rfl (by decide) _ _ _ rfl D 5 hr5 ⟨W1.heap.size, 0, none⟩ 1 1 [.iface T (.pointer (some ⟨p, 0, none⟩))] rfl rfl ?c1 ?c2 ?c3 ?c4 ?_)
    case c1 =>
      intro j u hj
      match j, hj with
      | 0, hj => simp at hj; subst hj; exact HKA.out
      | (j + 1), hj => simp at hj
    case c2 => intro u hu; simp at hu; subst hu; rfl
    case c3 => unfold maxLen; omega
    case c4 => omega
    intro v' w2 hrow hgr _
    obtain ⟨g, cap', _, rfl, hg2, _⟩ := hrow.at (by omega)
    have hob : ∀ k, (Value.slice as' s.2.length cs').ownBlock = some k → D k = 5 := fun k hk => hr5.lab k hk
    have hkeep : ∀ k, k < w.heap.size → D k ≠ 4 → D k ≠ 5 → w2.heap[k]? = w.heap[k]? := by
      intro k hk e4 e5
      have hk1 : k < W1.heap.size := Nat.lt_of_lt_of_le hk HW.out.1.size
      rw [hgr.block k (by simp [World.setCell]; omega) (fun e => e5 (hob k e.symm)), Below.heap_alloc _ _ _ (by simp [World.setCell]; omega), setCell_off _ (by intro e2; subst e2; exact e4 HB.out.2.2)]
      exact HW.out.1.block k hk
    have k3 := (hkeep bs (lt_at H.out.2.2.2.2.2.2.2.2.2.2.1) (by have := H.out.2.2.2.2.2.1; omega) (by have := H.out.2.2.2.2.2.1; omega)).trans H.out.2.2.2.2.2.2.2.2.2.2.1
    have f2 : w2.frozen? ⟨bs, 0, none⟩ = false := frozen_at k3
    have d2 : w2.cell? ⟨bs, 0, none⟩ = some (.slice as' s.2.length cs') := cell_at k3
    have HZ := Lib.hid (And.intro hrow (And.intro hgr (And.intro hg2 (And.intro hob (And.intro hkeep k3)))))
    clear hrow hgr hg2 hob hkeep k3 hr5 c1 c2 c3 f3 c4 z3
    go_wp2
    go_end0
    obtain ⟨hrow, hgr, hg2, hob, hkeep, k3⟩ := HZ.out
    obtain ⟨h1, h2, h3, d1, d2', d3, d4, d5, k1, k2, kk3, r1, r2, hv⟩ := H.out
    have hs := HS.out
    rw [if_pos HB.out.1] at hs
    have hsz : W1.heap.size ≤ w2.heap.size := by have := hgr.size; simp [World.setCell] at this; omega
    have hzw := HW.out.1.size
    have hne : g ≠ bs := fun e => by
      subst e
      have := lt_at kk3
      rw [if_pos (by omega)] at hg2
      omega
    have hnb : ∀ k, D k ≠ 3 → k ≠ bs := fun k e e2 => e (e2 ▸ d3)
    have hwx : ∀ k, k < w.heap.size → D k ≠ 3 → D k ≠ 4 → D k ≠ 5 → (w2.setCell ⟨bs, 0, none⟩ (.slice (some ⟨g, 0, none⟩) (s.2.length + 1) cap')).heap[k]? = w.heap[k]? := fun k hk e3 e4 e5 => by
      rw [setCell_off _ (hnb k e3)]
      exact hkeep k hk e4 e5
    have hlow : ∀ k, D k ≠ 0 → k < w.heap.size := fun k hk => by
      apply Classical.byContradiction
      intro hn
      exact hk (d5 k (by omega))
    have krb : w2.heap[rb]? = some (.cells (rcur.setIfInBounds i (.bool true)) 4 (0, 0)) := by
      rw [hgr.block rb (by have := lt_at HW.out.2.2.2; simp [World.setCell]; omega) (fun e => by have := hob rb e.symm; have := HB.out.2.2; omega), Below.heap_alloc _ _ _ (by have := lt_at HW.out.2.2.2; simp [World.setCell]; omega)]
      exact setCell_at HW.out.2.2.2 _
    have hcnt := count_set_false s.1 i HB.out.1
    have hvl := r2.length
    rw [hs]
    refine ⟨rfl, ⟨?_, by simpa using h2, by simp; omega, fun k => if k < w.heap.size then D k else if k = g then 5 else 0, .slice (some ⟨rb, 0, none⟩) m.obs.length cap, .slice (some ⟨g, 0, none⟩) (s.2.length + 1) cap', vs ++ [.iface T (.pointer (some ⟨p, 0, none⟩))], ?_, ?_, ?_, fun k hk => ?_, fun k hk => ?_, ?_, ?_, setCell_at k3 _, ?_, ?_, fun j i' hj => ?_⟩⟩
    · refine h1.trans ⟨?_, ?_, ?_, ?_, fun k hk => hwx k (Nat.lt_of_lt_of_le hk h1.size) (by rw [d4 k hk]; omega) (by rw [d4 k hk]; omega) (by rw [d4 k hk]; omega)⟩
      · exact hgr.os.trans HW.out.1.os
      · exact hgr.tape.trans HW.out.1.tape
      · exact hgr.output.trans HW.out.1.output
      · simp [World.setCell]; omega
    · exact (if_pos (lt_at k1)).trans d1
    · exact (if_pos (lt_at k2)).trans d2'
    · exact (if_pos (lt_at kk3)).trans d3
    · exact (if_pos (Nat.lt_of_lt_of_le hk h1.size)).trans (d4 k hk)
    · have hk2 : w2.heap.size ≤ k := by simpa [World.setCell] using hk
      have := hrow.lt g rfl
      exact (if_neg (by omega)).trans (if_neg (by omega))
    · exact (hwx bh (lt_at k1) (by omega) (by omega) (by omega)).trans k1
    · exact (hwx br (lt_at k2) (by omega) (by omega) (by omega)).trans k2
    · obtain ⟨⟨hl, ho2⟩, hlb⟩ := r1
      rcases ho2 with ⟨e, _⟩ | ⟨g', cap2, cur', e, _, hh, hnc, hcm, hcs, htk⟩
      · cases e
      cases e
      have hcur : cur' = rcur := by
        have := HB.out.2.1
        rw [hh] at this
        cases this
        rfl
      subst hcur
      refine ⟨⟨by simpa [bools] using h2, .inr ⟨rb, cap, cur'.setIfInBounds i (.bool true), rfl, Nat.zero_le _, (setCell_off _ (fun e => n1 e.symm)).trans krb, hnc, hcm, by simpa using hcs, ?_⟩⟩, fun k hk => ?_⟩
      · simp only [bools, List.map_set, Array.toList_setIfInBounds] at htk ⊢
        rw [List.take_set, htk]
      · cases hk
        exact (if_pos (lt_at HB.out.2.1)).trans HB.out.2.2
    · refine ⟨by simpa using ownsRow_setCell_other hrow.own (a := ⟨bs, 0, none⟩) (fun e => hne (by simpa [Value.ownBlock] using e)) _, fun k hk => ?_⟩
      cases hk
      by_cases hgw : g < w.heap.size
      · rw [if_pos (by omega)] at hg2
        exact (if_pos hgw).trans hg2
      · exact (if_neg hgw).trans (if_pos rfl)
    · by_cases hjl : j < s.2.length
      · rw [List.getElem?_append_left hjl] at hj
        obtain ⟨o', v, a1, a2, a3⟩ := hv j i' hj
        exact ⟨o', v, a1, by rw [List.getElem?_append_left (by omega)]; exact a2, a3⟩
      · rw [List.getElem?_append_right (by omega)] at hj
        have hj0 : j - s.2.length = 0 := by
          have := (List.getElem?_eq_some_iff.1 hj).1
          simp at this
          omega
        rw [hj0] at hj
        simp at hj
        subst hj
        exact ⟨o, _, HO.out.1, by rw [List.getElem?_append_right (by omega), show j - vs.length = 0 by omega]; rfl, HO.out.2⟩
  · go_wp2
    go_end0
    have hs := HS.out
    rw [if_neg (by rw [HB.out.1]; simp)] at hs
    rw [hs]
    refine ⟨rfl, Dfs.move (w := w) ⟨H.out.1, H.out.2.1, H.out.2.2.1, D, _, _, vs, H.out.2.2.2⟩ HW.out.1⟩
/-- The closure visits a word. -/
theorem visit_any {W0 w : World} {hb : Nat} {G : Nat → Nat} {m : Hp} {bh br bs : Nat} {s : List Bool × List Nat} (x : Wd) (h0 : HeapAt W0 hb G m) (h : Dfs W0 w hb G m bh br bs s) :
    Calls Tryd.prog 55 #[wv x, .pointer (some ⟨bh, 0, none⟩), .pointer (some ⟨br, 0, none⟩), .pointer (some ⟨bs, 0, none⟩)] w fun e w' => e = .returned (.tuple #[]) ∧ Dfs W0 w' hb G m bh br bs (m.visit s x) := by
  cases hx : m.find x with
  | none =>
    have e : m.visit s x = s := by simp only [Hp.visit, hx]
    rw [e]
    exact visit_none x h0 h hx
  | some o => exact visit_some x h0 h o hx
end Go.Proofs.YtleppjdmcjocmaaDoor
