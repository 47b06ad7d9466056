/- The contracts of the string builder's copyCheck and WriteRune at a builder that the call itself has made. Condition: at most 2^47 bytes. -/
import Derived.Test.YtbbopdkbokbafaaGreatDoorRnShelf
import Derived.Test.YtbbopdkbokbafaaGreatDoorHpMake2
import Derived.Shelf.Strings.BuilderRune
import Derived.Shelf.Strings.Builder1
import Derived.WalkKit
import Derived.WalkSpells
import Derived.WalkLawsBesides
import Derived.RegionTactic
import Derived.Outline
import Derived.Lib.Hide
namespace Go.Proofs.YtbbopdkbokbafaaGreatDoor
open Go.RowKit Go.Lib Go.Shelf
theorem sizeBuilder : (Tryz.prog.info? 150).map (·.size) = some 2 := by kernel_rfl
theorem liesBuilder : liesAt Tryz.prog Tryz.prog.depth 150 (2 / Tryz.prog.cellsOf 150) 0 150 1 = true := by kernel_rfl
set_option maxRecDepth 100000 in
set_option maxHeartbeats 400000 in
theorem copyCheck_fresh (b : Nat) (w : World) (h0 : w.cell? ⟨b, 0, none⟩ = some (.pointer none)) (hsh : w.shape? b = some (150, 2)) (hfz : w.frozen? ⟨b, 0, none⟩ = false) :
    Calls Tryz.prog 198 #[.pointer (some ⟨b, 0, none⟩)] w fun e w' => e = .returned (.tuple #[]) ∧ w.setCell ⟨b, 0, none⟩ (.pointer (some ⟨b, 0, none⟩)) = w' := by
  obtain ⟨j, hj, hjs⟩ := Option.map_eq_some_iff.1 sizeBuilder
  have r1 := Lib.run_to_unsafe w ⟨b, 0, none⟩ Tryz.underlying148 Tryz.underlying250 hj (by rw [hjs]; decide) hsh (Nat.zero_lt_succ 1)
  have r3 := Lib.run_from_unsafe w ⟨b, 0, none⟩ Tryz.underlying250 Tryz.underlying148 hj hsh liesBuilder
  clear hj hjs hsh
  go_enter Tryz.func198, Tryz.ntmps198
  go_wp2
  rw [run_callFunc_extern Tryz.func246 (by kernel_rfl) (by kernel_rfl) (by kernel_rfl) (e := Extern.AbiNoEscape.same) (by kernel_rfl), Lib.run_noEscape]
  simp only [Result.andThen]
  rw [Oper.upon_value]
  go_wp2
  go_end0
  exact ⟨rfl, rfl⟩
set_option maxHeartbeats 400000 in
theorem copyCheck_used (b : Nat) (w : World) (h0 : w.cell? ⟨b, 0, none⟩ = some (.pointer (some ⟨b, 0, none⟩))) :
    Calls Tryz.prog 198 #[.pointer (some ⟨b, 0, none⟩)] w fun e w' => e = .returned (.tuple #[]) ∧ w = w' := by
  obtain ⟨j, hj, _⟩ := Option.map_eq_some_iff.1 sizeBuilder
  have r1 := Lib.run_neq_ptr_same w ⟨b, 0, none⟩ Tryz.underlying148 hj
  clear hj
  go_enter Tryz.func198, Tryz.ntmps198
  go_wp2
  go_end0
  exact ⟨rfl, rfl⟩
/-- copyCheck at a builder of the call's own: behind it the builder knows its own place; the rest stands. -/
theorem copyCheck_any (B b : Nat) (bs : List Value) (w : World) (h : Lib.IsBuilderF 150 5 B b bs w) :
    Calls Tryz.prog 198 #[.pointer (some ⟨b, 0, none⟩)] w fun e w' => e = .returned (.tuple #[]) ∧ Lib.BuilderAtF 150 5 B b (.pointer (some ⟨b, 0, none⟩)) bs w' ∧ Below B w w' := by
  cases h with
  | inl h =>
    refine (copyCheck_fresh b w h.cell0 h.shape h.frozen0).mono ?_
    intro e w' hh
    obtain ⟨he, hw⟩ := hh
    subst hw
    exact ⟨he, h.used _, (Below.refl B w).setCell (p := ⟨b, 0, none⟩) h.1 _⟩
  | inr h =>
    refine (copyCheck_used b w h.cell0).mono ?_
    intro e w' hh
    obtain ⟨he, hw⟩ := hh
    subst hw
    exact ⟨he, h, Below.refl B _⟩
/-- What a used builder's two cells are. -/
theorem built_cells {B b : Nat} {bs : List Value} {w : World} (h : Lib.BuilderAtF 150 5 B b (.pointer (some ⟨b, 0, none⟩)) bs w) :
    ∃ ao cap, w.heap[b]? = some (.cells #[.pointer (some ⟨b, 0, none⟩), .slice ao bs.length cap] 150 (0, 0)) ∧ w.ownsRowF B 5 1 (.slice ao bs.length cap) bs.length bs ∧ (Value.slice ao bs.length cap).ownBlock ≠ some b ∧ b < w.heap.size := by
  obtain ⟨_, v, hbk, hown, hne⟩ := h
  have hlt : b < w.heap.size := (Array.getElem?_eq_some_iff.1 hbk).1
  rcases hown.2 with ⟨hv, h0⟩ | ⟨g, cap, cur, fz, hv, hrest⟩
  · subst hv
    rw [h0] at hown ⊢
    exact ⟨none, 0, hbk, hown, hne, hlt⟩
  · subst hv
    exact ⟨_, cap, hbk, hown, hne, hlt⟩
set_option maxHeartbeats 1000000 in
/-- WriteRune at a builder of the call's own: the character's bytes go in behind. -/
theorem writeRune_any (B b : Nat) (bs : List Value) (r : Int) (hr0 : -2147483648 ≤ r) (hr1 : r ≤ 2147483647) (w : World) (h : Lib.IsBuilderF 150 5 B b bs w) (hlen : bs.length + 4 ≤ 140737488355328) (hBw : B ≤ w.heap.size) :
    Calls Tryz.prog 224 #[.pointer (some ⟨b, 0, none⟩), .int .i32 r] w fun e w' => e = .returned (.tuple #[.int .i64 (Lib.runeCells r).length, .nilIface]) ∧ Lib.IsBuilderF 150 5 B b (bs ++ Lib.runeCells r) w' ∧ Below B w w' := by
  have cC := copyCheck_any B b bs w h
  have hk4 := Lib.runeCells_le r
  go_enter Tryz.func224, Tryz.ntmps224
  go_wp2_with (go_at_call 198; refine cC.mono ?_)
  rintro e w1 ⟨rfl, h1, hb1⟩
  have hB := h1.1
  obtain ⟨ao, cap, hbk, hown, hne, hlt⟩ := built_cells h1
  have c0 : w1.cell? ⟨b, 0, none⟩ = some (.pointer (some ⟨b, 0, none⟩)) := by rw [Lib.cell_of_heap hbk]; rfl
  have c1 : w1.cell? ⟨b, 1, none⟩ = some (.slice ao bs.length cap) := by rw [Lib.cell_of_heap hbk]; rfl
  have hs1 := hb1.size
  have cA := Any.utf8_AppendRune_own Tryz.lays242 Tryz.Builder_Extra_242 B _ bs.length bs r hr0 hr1 w1 hown hlen (by omega)
  clear cC
  go_wp2_with (go_at_call 252; refine cA.mono ?_)
  rintro e w2 ⟨v', rfl, hown', o, hgrow⟩
  clear cA
  have hb2 : w2.heap[b]? = some (.cells #[.pointer (some ⟨b, 0, none⟩), .slice ao bs.length cap] 150 (0, 0)) := by
    rw [hgrow.block b (by simp; omega) (fun e => hne e.symm), Lib.alloc_old w1 _ b hlt]
    exact hbk
  have hbe : Below B w w2 := (hb1.alloc (by omega) _).grown hgrow (by simp; omega) (fun k hk => (hown.lt k hk).1)
  have d0 : w2.cell? ⟨b, 0, none⟩ = some (.pointer (some ⟨b, 0, none⟩)) := by rw [Lib.cell_of_heap hb2]; rfl
  have d1 : w2.cell? ⟨b, 1, none⟩ = some (.slice ao bs.length cap) := by rw [Lib.cell_of_heap hb2]; rfl
  have f1 : w2.frozen? ⟨b, 1, none⟩ = false := Lib.frozen_of_heap hb2 1
  obtain ⟨g, cap', hv'⟩ : ∃ g cap', v' = .slice (some ⟨g, 0, none⟩) (bs.length + (Lib.runeCells r).length) cap' := by
    rcases hown'.2 with ⟨_, h0⟩ | ⟨g, cap', cur, fz, hv, _⟩
    · omega
    · exact ⟨g, cap', hv⟩
  subst hv'
  have HX : Hid (w2.ownsRowF B 5 1 (.slice (some ⟨g, 0, none⟩) (bs.length + (Lib.runeCells r).length) cap') (bs.length + (Lib.runeCells r).length) (bs ++ Lib.runeCells r) ∧ w2.heap[b]? = some (.cells #[.pointer (some ⟨b, 0, none⟩), .slice ao bs.length cap] 150 (0, 0)) ∧ Below B w w2) := Lib.hid ⟨hown', hb2, hbe⟩
  clear hown' hb2 hbe hgrow hbk hown hne c0 c1 h1 hb1 h
  go_wp2
  go_ret2
  refine ⟨?_, Or.inr ?_, HX.out.2.2.setCell (p := ⟨b, 1, none⟩) hB _⟩
  · have e : ((bs.length : Int) + ((Lib.runeCells r).length : Int) - (bs.length : Int)) = ((Lib.runeCells r).length : Int) := by omega
    simp [e]
  · exact Lib.BuilderAtF.put (T := 150) (e := 5) hB HX.out.2.1 (bs' := bs ++ Lib.runeCells r) (by simpa using HX.out.1) (by decide)
end Go.Proofs.YtbbopdkbokbafaaGreatDoor
