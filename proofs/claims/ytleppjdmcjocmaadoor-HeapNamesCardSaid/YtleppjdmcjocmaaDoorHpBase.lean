/- What every card of this seat needs: a start at which unicode/utf8's two tables are laid, and that a laid start holds the tables. -/
import Derived.Test.YtleppjdmcjocmaaDoorCards
import Derived.Test.YtleppjdmcjocmaaDoorTie
import Derived.Test.YtleppjdmcjocmaaDoorHpStr
import Derived.Lib.LaidIn
import Derived.Lib.LaidU8T
import Derived.PinnedBridge
import Derived.Deep.DeepHandedRow
import Derived.Deep.DeepWitnessRowRef
import Derived.ProofKit
import Derived.OpenShut
import Derived.Deep.SlicePairs
import Derived.Lib.SmallJoins
import Derived.Test.YtleppjdmcjocmaaDoorHpHolds1
import Derived.SizedLaws
namespace Go.Proofs.YtleppjdmcjocmaaDoor
open Go.ChangeShapes Go.WideShapes Go.ChangeAt Go.RowKit Go.Lib Go.Shelf
theorem own : ownKnob Tryd.prog.godebug = none := by kernel_rfl
theorem acc_eq : (Rows.laid_unicode_utf8_acceptRanges : DataW Unit) = Lib.acceptData := by kernel_rfl
theorem first_eq : Rows.laid_unicode_utf8_first = Lib.firstData := Pinned.utf8First_eq
/-- The settled world, the two variables holding what their initialisers lay. -/
noncomputable def laidWorld (os : Os) : World :=
  let w0 := World.holding Tryd.prog os ⟨#[], #[], []⟩
  let put (h : Array Obj) (g : Nat) (cs : Array Value) : Array Obj := h.modify g fun
    | .cells _ t frozen => .cells cs t frozen
    | o => o
  let h1 := put w0.heap 0 (Lib.firstTab.map fun z => Value.int .u8 z).toArray
  let h2 := put h1 1 ((List.range 16).flatMap fun i => [Value.int .u8 (Lib.accLo i), Value.int .u8 (Lib.accHi i)]).toArray
  { w0 with heap := h2 }
theorem laid_met (os : Os) (args : Array Value) : laidMet Tryd.prog [("unicode/utf8.acceptRanges", Rows.laid_unicode_utf8_acceptRanges), ("unicode/utf8.first", Rows.laid_unicode_utf8_first)] ((laidWorld os).forCall (fun _ _ => 0) ⟨#[], args, []⟩).memory := by
  rw [acc_eq, first_eq]
  exact (LaidIn.of_run (l := [("unicode/utf8.acceptRanges", Lib.acceptData), ("unicode/utf8.first", Lib.firstData)]) [0, 1] 8 (by kernel_rfl) (by kernel_rfl) (by kernel_rfl) (by kernel_rfl)).met
theorem tabs_of {W : World} (h : laidMet Tryd.prog [("unicode/utf8.acceptRanges", Rows.laid_unicode_utf8_acceptRanges), ("unicode/utf8.first", Rows.laid_unicode_utf8_first)] W) : Tabs W := by
  rw [acc_eq, first_eq] at h
  exact utf8Tabs_of_readsT (U8Types.of196 Tryd.lays196) ⟨by kernel_rfl, by kernel_rfl, by kernel_rfl, by kernel_rfl, by kernel_rfl, by kernel_rfl, by kernel_rfl⟩ (Lib.laidMet.reads h (.tail _ (.head _))) (Lib.laidMet.reads h (.head _))
theorem laidOut : laidOutB Tryd.prog = true := by kernel_rfl
theorem cells_int : Tryd.prog.cellsOf 3 = 1 := by kernel_rfl
theorem cells_word : Tryd.prog.cellsOf 28 = 2 := by kernel_rfl
set_option maxRecDepth 100000 in
/-- An argument that reads as a slice of words. -/
theorem wd_of {H : Type} {enc : TypeId × Value → H} {W : World} {base : Nat} {v : Value} {d : DataW H} {ps : List MemPlace} (hok : Value.okWide Tryd.prog W .any base 36 v)
    (h : DataW.Trod enc Tryd.prog W 0 (fun _ => true) true 36 v d ps) : ∃ L, ArgW W v L := by
  obtain ⟨a0, len, cap, rfl⟩ := okWide_slice Tryd.underlying36 hok
  obtain ⟨fuel, hf⟩ := h
  rcases Deep.open_slice_pairs Tryd.underlying36 Tryd.underlying28 cells_word rfl rfl cells_int cells_int hf with ⟨hcs, hx⟩ | ⟨a, len', cap', m, n, V0, V1, D0, D1, P0, P1, hcs, _, hl, hm, hmm, hx, hcell⟩
  · simp [Value.cells] at hcs
    obtain ⟨rfl, rfl, rfl⟩ := hcs
    exact ⟨[], .inl ⟨rfl, rfl⟩⟩
  · simp [Value.cells] at hcs
    obtain ⟨rfl, rfl, rfl⟩ := hcs
    have hlm : len ≤ m := by rw [hmm]; split <;> omega
    have hint : ∀ i, i < m → ∃ p q : Int, V0 i = .int .i64 p ∧ V1 i = .int .i64 q := by
      intro i hi
      obtain ⟨_, _, h3, h4⟩ := hcell i hi
      obtain ⟨p, e0, _⟩ := DataW.trod_int Tryd.underlying3 h3
      obtain ⟨q, e1, _⟩ := DataW.trod_int Tryd.underlying3 h4
      simp at e0 e1
      exact ⟨p, q, e0, e1⟩
    by_cases h0 : len = 0
    · subst h0
      exact ⟨[], .inr (.inl ⟨a, cap, rfl, rfl⟩)⟩
    · obtain ⟨b, off, spot⟩ := a
      have h00 := (hcell 0 (by omega)).1
      have hspot : spot = none := by simpa [Addr.add] using World.cell?_spot h00
      subst hspot
      refine ⟨(List.range len).map fun i => (RowKit.intOf (V0 i), RowKit.intOf (V1 i)), .inr (.inr ⟨by simp; omega, b, off, cap, by simp, ?_, fun j a ha => ?_⟩)⟩
      · have := World.block_lt_of_cell? _ _ h00
        simpa [Addr.add] using this
      · have hj := (List.getElem?_eq_some_iff.1 ha).1
        simp only [List.length_map, List.length_range] at hj
        rw [List.getElem?_map, List.getElem?_range hj] at ha
        have ha := Option.some.inj ha
        subst ha
        obtain ⟨c0, c1, _⟩ := hcell j (by omega)
        obtain ⟨p, q, e0, e1⟩ := hint j (by omega)
        rw [Go.WideShapes.add_plain] at c0 c1
        have f0 : RowKit.intOf (V0 j) = p := by rw [e0]; rfl
        have f1 : RowKit.intOf (V1 j) = q := by rw [e1]; rfl
        show W.cell? ⟨b, off + j * 2, none⟩ = some (.int .i64 (RowKit.intOf (V0 j))) ∧ W.cell? ⟨b, off + (j * 2 + 1), none⟩ = some (.int .i64 (RowKit.intOf (V1 j)))
        rw [f0, f1, c0, c1, e0, e1]
        exact ⟨rfl, rfl⟩
end Go.Proofs.YtleppjdmcjocmaaDoor
