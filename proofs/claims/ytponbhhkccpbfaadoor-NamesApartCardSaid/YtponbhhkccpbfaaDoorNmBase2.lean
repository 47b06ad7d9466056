/- Arguments that read as slices of strings, and of bools. -/
import Derived.Test.YtponbhhkccpbfaaDoorNmBase
import Derived.Test.YtponbhhkccpbfaaDoorNmGet
import Derived.Deep.Strs
import Derived.Deep.Grids
namespace Go.Proofs.YtponbhhkccpbfaaDoor
open Go.ChangeShapes Go.WideShapes Go.ChangeAt Go.RowKit Go.Lib Go.Shelf
theorem cells_string : Tryd.prog.cellsOf 9 = 1 := by kernel_rfl
theorem cells_bool : Tryd.prog.cellsOf 4 = 1 := by kernel_rfl
set_option maxRecDepth 100000 in
theorem texts_of {H : Type} {enc : TypeId × Value → H} {W : World} {base : Nat} {v : Value} {d : DataW H} {ps : List MemPlace} (hok : Value.okWide Tryd.prog W .any base 25 v)
    (h : DataW.Trod enc Tryd.prog W 0 (fun _ => true) true 25 v d ps) : ∃ L, ArgS W v L ∧ (L.length : Int) ≤ 9223372036854775807 := by
  obtain ⟨a0, len, cap, rfl⟩ := okWide_slice Tryd.underlying25 hok
  obtain ⟨fuel, hf⟩ := h
  rcases Deep.open_strs Tryd.underlying25 Tryd.underlying9 cells_string hf with ⟨hcs, hx⟩ | ⟨a, len', cap', m, Sx, hcs, _, hl, hm, hmm, hx, hcell⟩
  · simp [Value.cells] at hcs
    obtain ⟨rfl, rfl, rfl⟩ := hcs
    exact ⟨[], .inl ⟨rfl, rfl⟩, by decide⟩
  · simp [Value.cells] at hcs
    obtain ⟨rfl, rfl, rfl⟩ := hcs
    have hlm : len ≤ m := by rw [hmm]; split <;> omega
    have hlen : (len : Int) ≤ 9223372036854775807 := by unfold maxLen at hm; omega
    by_cases h0 : len = 0
    · subst h0
      exact ⟨[], .inr (.inl ⟨a, cap, rfl, rfl⟩), by decide⟩
    · obtain ⟨b, off, spot⟩ := a
      have h00 := (hcell 0 (by omega)).1
      have hspot : spot = none := by simpa [Addr.add] using World.cell?_spot h00
      subst hspot
      refine ⟨(List.range len).map Sx, .inr (.inr ⟨by simp; omega, b, off, cap, by simp, ?_, fun j a ha => ?_⟩), by simpa using hlen⟩
      · have := World.block_lt_of_cell? _ _ h00
        simpa [Addr.add] using this
      · have hj := (List.getElem?_eq_some_iff.1 ha).1
        simp only [List.length_map, List.length_range] at hj
        rw [List.getElem?_map, List.getElem?_range hj] at ha
        have ha := Option.some.inj ha
        subst ha
        have h1 := (hcell j (by omega)).1
        rw [Go.WideShapes.add_plain] at h1
        exact h1
set_option maxRecDepth 100000 in
theorem bools_of {H : Type} {enc : TypeId × Value → H} {W : World} {base : Nat} {v : Value} {d : DataW H} {ps : List MemPlace} (hok : Value.okWide Tryd.prog W .any base 52 v)
    (h : DataW.Trod enc Tryd.prog W 0 (fun _ => true) true 52 v d ps) : ∃ L, ArgB W v L := by
  obtain ⟨a0, len, cap, rfl⟩ := okWide_slice Tryd.underlying52 hok
  obtain ⟨fuel, hf⟩ := h
  rcases Deep.open_bools Tryd.underlying52 Tryd.underlying4 cells_bool hf with ⟨hcs, hx⟩ | ⟨a, len', cap', Bx, hcs, _, hl, hm, hx, hcell⟩
  · simp [Value.cells] at hcs
    obtain ⟨rfl, rfl, rfl⟩ := hcs
    exact ⟨[], .inl ⟨rfl, rfl⟩⟩
  · simp [Value.cells] at hcs
    obtain ⟨rfl, rfl, rfl⟩ := hcs
    by_cases h0 : len = 0
    · subst h0
      exact ⟨[], .inr (.inl ⟨a, cap, rfl, rfl⟩)⟩
    · obtain ⟨b, off, spot⟩ := a
      have h00 := hcell 0 (by omega)
      have hspot : spot = none := by simpa [Addr.add] using World.cell?_spot h00
      subst hspot
      refine ⟨(List.range len).map Bx, .inr (.inr ⟨by simp; omega, b, off, cap, by simp, ?_, fun j a ha => ?_⟩)⟩
      · have := World.block_lt_of_cell? _ _ h00
        simpa [Addr.add] using this
      · have hj := (List.getElem?_eq_some_iff.1 ha).1
        simp only [List.length_map, List.length_range] at hj
        rw [List.getElem?_map, List.getElem?_range hj] at ha
        have ha := Option.some.inj ha
        subst ha
        have h1 := hcell j (by omega)
        rw [Go.WideShapes.add_plain] at h1
        exact h1
end Go.Proofs.YtponbhhkccpbfaaDoor
