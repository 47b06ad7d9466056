/- Arguments that read as slices of ints. -/
import Derived.Test.YtbbopdkbokbafaaGreatDoorRdBase
import Derived.Test.YtbbopdkbokbafaaGreatDoorRdLives
import Derived.Deep.SlicePairs
namespace Go.Proofs.YtbbopdkbokbafaaGreatDoor
open Go.ChangeShapes Go.WideShapes Go.ChangeAt Go.RowKit Go.Lib Go.Shelf
/-- A slice of ints that came in. -/
def ArgI (w : World) (v : Value) (L : List Int) : Prop :=
  (v = .slice none 0 0 ∧ L = []) ∨ (∃ a c, v = .slice (some a) 0 c ∧ L = []) ∨
    (0 < L.length ∧ ∃ b o c, v = .slice (some ⟨b, o, none⟩) L.length c ∧ b < w.heap.size ∧ ∀ j a, L[j]? = some a → w.cell? ⟨b, o + j, none⟩ = some (.int .i64 a))
theorem ArgI.slice {w : World} {v : Value} {L : List Int} (h : ArgI w v L) : ∃ a c, v = .slice a L.length c := by
  rcases h with ⟨rfl, rfl⟩ | ⟨a, c, rfl, rfl⟩ | ⟨_, b, o, c, rfl, _⟩
  · exact ⟨none, 0, rfl⟩
  · exact ⟨_, c, rfl⟩
  · exact ⟨_, c, rfl⟩
/-- The element of an argument. -/
theorem ArgI.elem {w : World} {a0 : Option Addr} {c0 k : Nat} {L : List Int} {a : Int} (h : ArgI w (.slice a0 L.length c0) L) (ha : L[k]? = some a) : ∃ b o, a0 = some ⟨b, o, none⟩ ∧ b < w.heap.size ∧ w.cell? ⟨b, o + k, none⟩ = some (.int .i64 a) := by
  have hl := (List.getElem?_eq_some_iff.1 ha).1
  rcases h with ⟨_, e⟩ | ⟨_, _, _, e⟩ | ⟨_, b, o, c, e, hb, hc⟩
  · rw [e] at hl; simp at hl
  · rw [e] at hl; simp at hl
  · cases e
    exact ⟨b, o, rfl, hb, hc k a ha⟩
set_option maxRecDepth 100000 in
/-- An argument that reads as a slice of ints. -/
theorem ints_of {H : Type} {enc : TypeId × Value → H} {W : World} {base : Nat} {v : Value} {d : DataW H} {ps : List MemPlace} (hok : Value.okWide Tryz.prog W .any base 61 v)
    (h : DataW.Trod enc Tryz.prog W 0 (fun _ => true) true 61 v d ps) : ∃ L, ArgI W v L := by
  obtain ⟨a0, len, cap, rfl⟩ := okWide_slice Tryz.underlying61 hok
  obtain ⟨fuel, hf⟩ := h
  rcases open_ints Tryz.underlying61 Tryz.underlying3 cells_int hf with ⟨hcs, hx⟩ | ⟨a, len', cap', zs, hcs, _, hl, hm, hz, hx, hcell, hwz⟩
  · simp [Value.cells] at hcs
    obtain ⟨rfl, rfl, rfl⟩ := hcs
    exact ⟨[], .inl ⟨rfl, rfl⟩⟩
  · simp [Value.cells] at hcs
    obtain ⟨rfl, rfl, rfl⟩ := hcs
    have hlz : len ≤ zs.length := by rw [hz]; simp; exact hl
    by_cases h0 : len = 0
    · subst h0
      exact ⟨[], .inr (.inl ⟨a, cap, rfl, rfl⟩)⟩
    · obtain ⟨b, off, spot⟩ := a
      have h00 := hcell 0 (by omega)
      have hspot : spot = none := by simpa [Addr.add] using World.cell?_spot h00
      subst hspot
      refine ⟨zs.take len, .inr (.inr ⟨by simp; omega, b, off, cap, by simp [hlz], ?_, fun j a ha => ?_⟩)⟩
      · have := World.block_lt_of_cell? _ _ h00
        simpa [Addr.add] using this
      · have hj := (List.getElem?_eq_some_iff.1 ha).1
        simp only [List.length_take] at hj
        have h1 := hcell j (by omega)
        rw [Go.WideShapes.add_plain] at h1
        rw [h1]
        rw [List.getElem?_take_of_lt (by omega)] at ha
        rw [List.getD_eq_getElem?_getD, ha]
        rfl
end Go.Proofs.YtbbopdkbokbafaaGreatDoor
