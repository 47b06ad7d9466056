/- Copy of a table: the walk. -/
import Derived.Test.YtponbhhkccpbfaaDoorNmCopy
import Derived.Test.YtponbhhkccpbfaaDoorNmShelf2
namespace Go.Proofs.YtponbhhkccpbfaaDoor
open Go.RowKit Go.Lib Go.Shelf
theorem made_sym (n : Nat) : madeCells #[.int .i64 0, .int .i64 0, .bool false, .slice none 0 0, .string ⟨#[]⟩, .bool false] (n * 6) = (tcells (List.replicate n (sy0, .slice none 0 0))).toArray := by
  apply Array.ext'
  apply List.ext_getElem?
  intro q
  rw [tcells_get]
  simp only [madeCells, Array.toList_map, Array.toList_range, List.getElem?_map]
  by_cases hq : q < n * 6
  · rw [List.getElem?_range hq, List.getElem?_replicate, if_pos (by omega)]
    have hc : q % 6 = 0 ∨ q % 6 = 1 ∨ q % 6 = 2 ∨ q % 6 = 3 ∨ q % 6 = 4 ∨ q % 6 = 5 := by omega
    rcases hc with h | h | h | h | h | h <;> simp [scells, sy0, h]
  · rw [List.getElem?_eq_none (by simp; omega), List.getElem?_replicate, if_neg (by omega)]
    rfl
theorem make_syms (n : Nat) (hn : n ≤ 16384) (w : World) : (Instr.makeSlice 72 (.int .i64 n) (.int .i64 n)).run Tryd.prog w = .ok (.slice (some ⟨w.heap.size, 0, none⟩) n n) (w.alloc (.cells (tcells (List.replicate n (sy0, .slice none 0 0))).toArray 80)) := by
  obtain ⟨i0, hi0, hz0, hz1, hz2⟩ := info_parts info_sym
  have h := run_make (P := Tryd.prog) w 72 80 i0 (.agg #[.int .i64 0, .int .i64 0, .bool false, .slice none 0 0, .string ⟨#[]⟩, .bool false]) Tryd.underlying72 hi0 hz0 .i64 .i64 n n (by omega) (Int.le_refl _) (by rw [hz2]; omega) (by omega)
  rw [← made_sym]
  simpa [hz1, Value.cells] using h
theorem CopyT.start (w : World) (ss : List Sy) : CopyT w (w.alloc (.cells (tcells (List.replicate ss.length (sy0, .slice none 0 0))).toArray 80)) w.heap.size (fun j => if j = w.heap.size then 2 else 0) ss 0 :=
  ⟨(Below.refl _ _).alloc (Nat.le_refl _) _, fun j hj => if_neg (by simp at hj; omega), fun j hj => if_neg (by omega), if_pos rfl, List.replicate ss.length (sy0, .slice none 0 0), by simp, alloc_at _ _, fun i y _ h => absurd h (Nat.not_lt_zero _)⟩
theorem TableAt.copyFacts {w : World} {tb : Nat} {G : Nat → Nat} {m : Tb} (h : TableAt w tb G m) (hne : 0 < m.syms.length) : ∃ g c mb, w.cell? ⟨tb, 0, none⟩ = some (.slice (some ⟨g, 0, none⟩) m.syms.length c) ∧ w.cell? ⟨tb, 1, none⟩ = some (.map (some mb)) ∧ g < w.heap.size ∧
    w.ownsMap Tryd.prog 9 (Go.plainElem Tryd.prog 3) mb m.syms.length m.D ∧ ∀ i y, m.syms[i]? = some y → ∃ a cp, (w.cell? ⟨g, i * 6, none⟩ = some (.int .i64 y.f.1) ∧ w.cell? ⟨g, i * 6 + 1, none⟩ = some (.int .i64 y.f.2) ∧ w.cell? ⟨g, i * 6 + 2, none⟩ = some (.bool y.has) ∧
      w.cell? ⟨g, i * 6 + 3, none⟩ = some (.slice a y.ps.length cp) ∧ w.cell? ⟨g, i * 6 + 4, none⟩ = some (.string y.name) ∧ w.cell? ⟨g, i * 6 + 5, none⟩ = some (.bool y.intd)) ∧ Row w G (4 + i) 66 3 (.slice a y.ps.length cp) y.ps.length (pcells y.ps) := by
  obtain ⟨vs, mb, rs, h1, h2, h3, h4, h5, h6⟩ := h.lies
  have hl : rs.length = m.syms.length := by rw [← h2]; simp
  obtain ⟨g, c, cur, rfl, hG, hg, _⟩ := h3.at (by omega)
  refine ⟨g, c, mb, by rw [cell_at h1, ← hl]; rfl, by rw [cell_at h1]; rfl, lt_at hg, h5, fun i y hy => ?_⟩
  obtain ⟨v, hv⟩ : ∃ v, rs[i]? = some (y, v) := by
    rw [← h2, List.getElem?_map] at hy
    cases hr : rs[i]? with
    | none => rw [hr] at hy; cases hy
    | some p =>
      rw [hr] at hy
      simp at hy
      exact ⟨p.2, by rw [← hy]⟩
  have hp := h6 i y v hv
  obtain ⟨a, cp, rfl⟩ := hp.slice
  have hat := fun j hj => tcells_at rs i _ hv j hj
  exact ⟨a, cp, ⟨h3.cell (i := i * 6) (by have := hat 0 (by decide); rw [Nat.add_zero] at this; rw [this]; rfl), h3.cell (i := i * 6 + 1) (by rw [hat 1 (by decide)]; rfl), h3.cell (i := i * 6 + 2) (by rw [hat 2 (by decide)]; rfl),
    h3.cell (i := i * 6 + 3) (by rw [hat 3 (by decide)]; rfl), h3.cell (i := i * 6 + 4) (by rw [hat 4 (by decide)]; rfl), h3.cell (i := i * 6 + 5) (by rw [hat 5 (by decide)]; rfl)⟩, hp⟩
theorem mclone_any {w : World} {mb n : Nat} {D : DataW Unit} (h : w.ownsMap Tryd.prog 9 (Go.plainElem Tryd.prog 3) mb n D) :
    Calls Tryd.prog 47 #[.map (some mb)] w fun e w' => e = .returned (.map (some w.heap.size)) ∧ w'.ownsMap Tryd.prog 9 (Go.plainElem Tryd.prog 3) w.heap.size n D ∧ Below w.heap.size w w' ∧ w.heap.size < w'.heap.size := by
  refine (Go.Proofs.AnyW.maps_Clone_owns Tryd.mcloneA 9 (Go.plainElem Tryd.prog 3) mb n D w h).mono ?_
  rintro e w' ⟨h1, h2, _, h4⟩
  exact ⟨h1, h2, h4, h2.lt⟩
set_option maxHeartbeats 4000000 in
theorem tcopy_any {w : World} {tb : Nat} {G : Nat → Nat} {m : Tb} (h : TableAt w tb G m) (hne : 0 < m.syms.length) (hps : ∀ y ∈ m.syms, y.ps.length ≤ 20000) :
    Calls Tryd.prog 20 #[hptr tb] w fun e w' => ∃ tb' G', e = .returned (hptr tb') ∧ TableAt w' tb' G' m ∧ (∀ j, j < w.heap.size → G' j = 0) ∧ Below w.heap.size w w' := by
  obtain ⟨g, c, mb, c0, c1, hg, hmo, hsy⟩ := h.copyFacts hne
  have cV := h.valid hne
  have hlen := h.ok.len
  have hMk := make_syms m.syms.length hlen w
  have HST := Lib.hid (CopyT.start w m.syms)
  have HH := Lib.hid (And.intro h (And.intro hne (And.intro hps (And.intro hg (And.intro hmo (And.intro hsy (And.intro c0 c1)))))))
  have hN : ((m.syms.length : Nat) : Int) ≤ 16384 := by omega
  have htl := h.lt
  clear h hne hps hmo hsy
  go_enter Tryd.func20, Tryd.ntmps20
  go_wp2_with fail
  refine cV.mono ?_
  rintro e w1 ⟨rfl, rfl⟩
  have c0' : (w1.alloc (.cells (tcells (List.replicate m.syms.length (sy0, .slice none 0 0))).toArray 80)).cell? ⟨tb, 0, none⟩ = some (.slice (some ⟨g, 0, none⟩) m.syms.length c) := (((Below.refl w1.heap.size w1).alloc (Nat.le_refl _) _).cell (p := ⟨tb, 0, none⟩) htl).trans c0
  go_wp2_with fail
  clear hMk c0'
  generalize w1.alloc (.cells (tcells (List.replicate m.syms.length (sy0, .slice none 0 0))).toArray 80) = W0 at *
  go_loopw [20] (fun i wr => ∃ (k : Nat) (G2 : Nat → Nat), i = .int .i64 k ∧ k ≤ m.syms.length ∧ Hid (CopyT w1 wr w1.heap.size G2 m.syms k)) (fun i _ => m.syms.length - (RowKit.intOf i).toNat)
  case atStart => exact ⟨0, _, rfl, Nat.zero_le _, HST⟩
  case round =>
    obtain ⟨k, G2, rfl, hk, HC⟩ := hrel
    by_cases hlt : (k : Int) < (m.syms.length : Int)
    · have hkl : k < m.syms.length := by omega
      obtain ⟨y, hy⟩ : ∃ y, m.syms[k]? = some y := ⟨_, List.getElem?_eq_getElem hkl⟩
      obtain ⟨a, cp, ⟨e0, e1, e2, e3, e4, e5⟩, hrow⟩ := HH.out.2.2.2.2.2.1 k y hy
      have cell : ∀ j u, w1.cell? ⟨g, j, none⟩ = some u → wr.cell? ⟨g, j, none⟩ = some u := fun j u hu => (HC.out.below.cell (p := ⟨g, j, none⟩) hg).trans hu
      have q0 := cell _ _ e0
      have q1 := cell _ _ e1
      have q2 := cell _ _ e2
      have q3 := cell _ _ e3
      have q4 := cell _ _ e4
      have q5 := cell _ _ e5
      have HR := Lib.hid (And.intro hrow hy)
      clear cell e0 e1 e2 e3 e4 e5 hrow
      have hbb : Below wr.heap.size wr (wr.alloc (.cells #[.int .i64 y.f.1, .int .i64 y.f.2, .bool y.has, .slice a y.ps.length cp, .string y.name, .bool y.intd] 80)) := (Below.refl _ _).alloc (Nat.le_refl _) _
      have kb := alloc_at wr (.cells #[.int .i64 y.f.1, .int .i64 y.f.2, .bool y.has, .slice a y.ps.length cp, .string y.name, .bool y.intd] 80)
      go_wp2_with fail
      generalize wr.alloc (.cells #[.int .i64 y.f.1, .int .i64 y.f.2, .bool y.has, .slice a y.ps.length cp, .string y.name, .bool y.intd] 80) = Wb at *
      have hbs := lt_at kb
      have hrow2 : Row Wb G (4 + k) 66 3 (.slice a y.ps.length cp) y.ps.length (pcells y.ps) := HR.out.1.keep (fun j hj _ => (HC.out.below.trans (hbb.mono HC.out.below.size)).block j hj) (fun _ _ e => e)
      have cC := cellclone_any hrow2 (HH.out.2.2.1 y (List.mem_of_getElem? hy)) (g := wr.heap.size) (o := 0) (f := y.f) (has := y.has) ((cell_at kb).trans rfl) ((cell_at kb).trans rfl) ((cell_at kb).trans rfl) ((cell_at kb).trans rfl) (4 + k) (by omega)
      have HB := Lib.hid (And.intro hbb (And.intro kb hbs))
      clear hbb kb hbs hrow2 q0 q1 q2 q3 q4 q5
      refine cC.mono ?_
      rintro e W1 ⟨v, rfl, hp⟩
      obtain ⟨a2, cp2, rfl⟩ := hp.slice
      have kb1 := (hp.1.block _ HB.out.2.2).trans HB.out.2.1
      have kb4 := setCell_at (i := 3) (setCell_at (i := 2) (setCell_at (i := 1) (setCell_at (i := 0) kb1 (.int .i64 y.f.1)) (.int .i64 y.f.2)) (.bool y.has)) (.slice a2 y.ps.length cp2)
      have hN2 := hp.kput (f := y.f) (has := y.has) HB.out.1 (Nat.le_refl _) HB.out.2.2 (by omega)
      obtain ⟨xs, hxl, hxh, hxr⟩ := HC.out.row
      have hgw := lt_at hxh
      have hg1 := (hp.1.block _ (Nat.lt_of_lt_of_le hgw HB.out.1.size)).trans ((HB.out.1.block _ hgw).trans hxh)
      have hg2 : ((((W1.setCell ⟨wr.heap.size, 0, none⟩ (.int .i64 y.f.1)).setCell ⟨wr.heap.size, 1, none⟩ (.int .i64 y.f.2)).setCell ⟨wr.heap.size, 2, none⟩ (.bool y.has)).setCell ⟨wr.heap.size, 3, none⟩ (.slice a2 y.ps.length cp2)).heap[w1.heap.size]? = some (.cells (tcells xs).toArray 80 (0, 0)) := (kput_off (f := y.f) (has := y.has) (v := .slice a2 y.ps.length cp2) (show w1.heap.size ≠ wr.heap.size by omega)).trans hg1
      have f0 : W1.frozen? ⟨wr.heap.size, 0, none⟩ = false := frozen_at kb1
      have b0 := (cell_at (i := 0) kb1).trans rfl
      have f1 : W1.frozen? ⟨wr.heap.size, 1, none⟩ = false := frozen_at kb1
      have b1 := (cell_at (i := 1) kb1).trans rfl
      have f2 : W1.frozen? ⟨wr.heap.size, 2, none⟩ = false := frozen_at kb1
      have b2 := (cell_at (i := 2) kb1).trans rfl
      have f3 : W1.frozen? ⟨wr.heap.size, 3, none⟩ = false := frozen_at kb1
      have b3 := (cell_at (i := 3) kb1).trans rfl
      have d0 : ((((W1.setCell ⟨wr.heap.size, 0, none⟩ (.int .i64 y.f.1)).setCell ⟨wr.heap.size, 1, none⟩ (.int .i64 y.f.2)).setCell ⟨wr.heap.size, 2, none⟩ (.bool y.has)).setCell ⟨wr.heap.size, 3, none⟩ (.slice a2 y.ps.length cp2)).cell? ⟨wr.heap.size, 0, none⟩ = some (.int .i64 y.f.1) := (cell_at (i := 0) kb4).trans (by simp)
      have d1 : ((((W1.setCell ⟨wr.heap.size, 0, none⟩ (.int .i64 y.f.1)).setCell ⟨wr.heap.size, 1, none⟩ (.int .i64 y.f.2)).setCell ⟨wr.heap.size, 2, none⟩ (.bool y.has)).setCell ⟨wr.heap.size, 3, none⟩ (.slice a2 y.ps.length cp2)).cell? ⟨wr.heap.size, 1, none⟩ = some (.int .i64 y.f.2) := (cell_at (i := 1) kb4).trans (by simp)
      have d2 : ((((W1.setCell ⟨wr.heap.size, 0, none⟩ (.int .i64 y.f.1)).setCell ⟨wr.heap.size, 1, none⟩ (.int .i64 y.f.2)).setCell ⟨wr.heap.size, 2, none⟩ (.bool y.has)).setCell ⟨wr.heap.size, 3, none⟩ (.slice a2 y.ps.length cp2)).cell? ⟨wr.heap.size, 2, none⟩ = some (.bool y.has) := (cell_at (i := 2) kb4).trans (by simp)
      have d3 : ((((W1.setCell ⟨wr.heap.size, 0, none⟩ (.int .i64 y.f.1)).setCell ⟨wr.heap.size, 1, none⟩ (.int .i64 y.f.2)).setCell ⟨wr.heap.size, 2, none⟩ (.bool y.has)).setCell ⟨wr.heap.size, 3, none⟩ (.slice a2 y.ps.length cp2)).cell? ⟨wr.heap.size, 3, none⟩ = some (.slice a2 y.ps.length cp2) := (cell_at (i := 3) kb4).trans (by simp)
      have d4 : ((((W1.setCell ⟨wr.heap.size, 0, none⟩ (.int .i64 y.f.1)).setCell ⟨wr.heap.size, 1, none⟩ (.int .i64 y.f.2)).setCell ⟨wr.heap.size, 2, none⟩ (.bool y.has)).setCell ⟨wr.heap.size, 3, none⟩ (.slice a2 y.ps.length cp2)).cell? ⟨wr.heap.size, 4, none⟩ = some (.string y.name) := (cell_at (i := 4) kb4).trans (by simp)
      have d5 : ((((W1.setCell ⟨wr.heap.size, 0, none⟩ (.int .i64 y.f.1)).setCell ⟨wr.heap.size, 1, none⟩ (.int .i64 y.f.2)).setCell ⟨wr.heap.size, 2, none⟩ (.bool y.has)).setCell ⟨wr.heap.size, 3, none⟩ (.slice a2 y.ps.length cp2)).cell? ⟨wr.heap.size, 5, none⟩ = some (.bool y.intd) := (cell_at (i := 5) kb4).trans (by simp)
      obtain ⟨p0, hp0⟩ : ∃ p0, xs[k]? = some p0 := ⟨_, List.getElem?_eq_getElem (by omega)⟩
      have hta := tcells_at xs k p0 hp0
      have u0 : ((((W1.setCell ⟨wr.heap.size, 0, none⟩ (.int .i64 y.f.1)).setCell ⟨wr.heap.size, 1, none⟩ (.int .i64 y.f.2)).setCell ⟨wr.heap.size, 2, none⟩ (.bool y.has)).setCell ⟨wr.heap.size, 3, none⟩ (.slice a2 y.ps.length cp2)).cell? ⟨w1.heap.size, k * 6, none⟩ = some (.int .i64 p0.1.f.1) := (cell_at (i := k * 6) hg2).trans (by have h9 := hta 0 (by decide); simp only [List.getElem?_toArray] at *; rw [Nat.add_zero] at h9; exact h9)
      have g0 : ((((W1.setCell ⟨wr.heap.size, 0, none⟩ (.int .i64 y.f.1)).setCell ⟨wr.heap.size, 1, none⟩ (.int .i64 y.f.2)).setCell ⟨wr.heap.size, 2, none⟩ (.bool y.has)).setCell ⟨wr.heap.size, 3, none⟩ (.slice a2 y.ps.length cp2)).frozen? ⟨w1.heap.size, k * 6, none⟩ = false := frozen_at hg2
      have u1 : ((((W1.setCell ⟨wr.heap.size, 0, none⟩ (.int .i64 y.f.1)).setCell ⟨wr.heap.size, 1, none⟩ (.int .i64 y.f.2)).setCell ⟨wr.heap.size, 2, none⟩ (.bool y.has)).setCell ⟨wr.heap.size, 3, none⟩ (.slice a2 y.ps.length cp2)).cell? ⟨w1.heap.size, k * 6 + 1, none⟩ = some (.int .i64 p0.1.f.2) := (cell_at (i := k * 6 + 1) hg2).trans (by have h9 := hta 1 (by decide); simp only [List.getElem?_toArray] at *; exact h9)
      have g1 : ((((W1.setCell ⟨wr.heap.size, 0, none⟩ (.int .i64 y.f.1)).setCell ⟨wr.heap.size, 1, none⟩ (.int .i64 y.f.2)).setCell ⟨wr.heap.size, 2, none⟩ (.bool y.has)).setCell ⟨wr.heap.size, 3, none⟩ (.slice a2 y.ps.length cp2)).frozen? ⟨w1.heap.size, k * 6 + 1, none⟩ = false := frozen_at hg2
      have u2 : ((((W1.setCell ⟨wr.heap.size, 0, none⟩ (.int .i64 y.f.1)).setCell ⟨wr.heap.size, 1, none⟩ (.int .i64 y.f.2)).setCell ⟨wr.heap.size, 2, none⟩ (.bool y.has)).setCell ⟨wr.heap.size, 3, none⟩ (.slice a2 y.ps.length cp2)).cell? ⟨w1.heap.size, k * 6 + 2, none⟩ = some (.bool p0.1.has) := (cell_at (i := k * 6 + 2) hg2).trans (by have h9 := hta 2 (by decide); simp only [List.getElem?_toArray] at *; exact h9)
      have g2 : ((((W1.setCell ⟨wr.heap.size, 0, none⟩ (.int .i64 y.f.1)).setCell ⟨wr.heap.size, 1, none⟩ (.int .i64 y.f.2)).setCell ⟨wr.heap.size, 2, none⟩ (.bool y.has)).setCell ⟨wr.heap.size, 3, none⟩ (.slice a2 y.ps.length cp2)).frozen? ⟨w1.heap.size, k * 6 + 2, none⟩ = false := frozen_at hg2
      have u3 : ((((W1.setCell ⟨wr.heap.size, 0, none⟩ (.int .i64 y.f.1)).setCell ⟨wr.heap.size, 1, none⟩ (.int .i64 y.f.2)).setCell ⟨wr.heap.size, 2, none⟩ (.bool y.has)).setCell ⟨wr.heap.size, 3, none⟩ (.slice a2 y.ps.length cp2)).cell? ⟨w1.heap.size, k * 6 + 3, none⟩ = some (p0.2) := (cell_at (i := k * 6 + 3) hg2).trans (by have h9 := hta 3 (by decide); simp only [List.getElem?_toArray] at *; exact h9)
      have g3 : ((((W1.setCell ⟨wr.heap.size, 0, none⟩ (.int .i64 y.f.1)).setCell ⟨wr.heap.size, 1, none⟩ (.int .i64 y.f.2)).setCell ⟨wr.heap.size, 2, none⟩ (.bool y.has)).setCell ⟨wr.heap.size, 3, none⟩ (.slice a2 y.ps.length cp2)).frozen? ⟨w1.heap.size, k * 6 + 3, none⟩ = false := frozen_at hg2
      have u4 : ((((W1.setCell ⟨wr.heap.size, 0, none⟩ (.int .i64 y.f.1)).setCell ⟨wr.heap.size, 1, none⟩ (.int .i64 y.f.2)).setCell ⟨wr.heap.size, 2, none⟩ (.bool y.has)).setCell ⟨wr.heap.size, 3, none⟩ (.slice a2 y.ps.length cp2)).cell? ⟨w1.heap.size, k * 6 + 4, none⟩ = some (.string p0.1.name) := (cell_at (i := k * 6 + 4) hg2).trans (by have h9 := hta 4 (by decide); simp only [List.getElem?_toArray] at *; exact h9)
      have g4 : ((((W1.setCell ⟨wr.heap.size, 0, none⟩ (.int .i64 y.f.1)).setCell ⟨wr.heap.size, 1, none⟩ (.int .i64 y.f.2)).setCell ⟨wr.heap.size, 2, none⟩ (.bool y.has)).setCell ⟨wr.heap.size, 3, none⟩ (.slice a2 y.ps.length cp2)).frozen? ⟨w1.heap.size, k * 6 + 4, none⟩ = false := frozen_at hg2
      have u5 : ((((W1.setCell ⟨wr.heap.size, 0, none⟩ (.int .i64 y.f.1)).setCell ⟨wr.heap.size, 1, none⟩ (.int .i64 y.f.2)).setCell ⟨wr.heap.size, 2, none⟩ (.bool y.has)).setCell ⟨wr.heap.size, 3, none⟩ (.slice a2 y.ps.length cp2)).cell? ⟨w1.heap.size, k * 6 + 5, none⟩ = some (.bool p0.1.intd) := (cell_at (i := k * 6 + 5) hg2).trans (by have h9 := hta 5 (by decide); simp only [List.getElem?_toArray] at *; exact h9)
      have g5 : ((((W1.setCell ⟨wr.heap.size, 0, none⟩ (.int .i64 y.f.1)).setCell ⟨wr.heap.size, 1, none⟩ (.int .i64 y.f.2)).setCell ⟨wr.heap.size, 2, none⟩ (.bool y.has)).setCell ⟨wr.heap.size, 3, none⟩ (.slice a2 y.ps.length cp2)).frozen? ⟨w1.heap.size, k * 6 + 5, none⟩ = false := frozen_at hg2
      obtain ⟨hNb, Gn, hNg, hNr⟩ := hN2
      have HS := Lib.hid (HC.out.step hy hNb hNg hNr)
      clear kb1 kb4 hg1 hg2 hxr hxh hxl hta hp0 hp hNb hNg hNr cC
      go_wp2
      go_roundw
      case rel => exact ⟨k + 1, _, by go_num, by omega, HS⟩
      case measure => simp [RowKit.intOf]; omega
    · have hkn : k = m.syms.length := by omega
      subst hkn
      clear hk hlt
      have c1r := (HC.out.below.cell (p := ⟨tb, 1, none⟩) htl).trans c1
      have hmo := HH.out.2.2.2.2.1
      have hmr := ownsMap_move hmo (HC.out.below.block mb hmo.lt)
      have HM := Lib.hid (mclone_any hmr)
      clear hmo hmr
      go_wp2_with fail
      refine HM.out.mono ?_
      rintro e W1 ⟨rfl, hm1, hb1, hl1⟩
      have hbb : Below W1.heap.size W1 (W1.alloc (.cells #[.slice (some ⟨w1.heap.size, 0, none⟩) m.syms.length m.syms.length, .map (some wr.heap.size)] 74)) := (Below.refl _ _).alloc (Nat.le_refl _) _
      have hF := HC.out.table (mb := wr.heap.size) (tb := W1.heap.size) HH.out.1.ok HH.out.2.1 (hb1.trans (hbb.mono hb1.size)) (Nat.le_refl _) hb1.size (by omega) (ownsMap_move hm1 (hbb.block _ hl1)) (alloc_at W1 _)
      have HF := Lib.hid hF
      clear hm1 hb1 hl1 hbb hF HM
      go_wp2
      go_ret
      obtain ⟨G3, h1, h2, h3⟩ := HF.out
      exact ⟨_, G3, rfl, h1, h2, h3⟩
end Go.Proofs.YtponbhhkccpbfaaDoor
