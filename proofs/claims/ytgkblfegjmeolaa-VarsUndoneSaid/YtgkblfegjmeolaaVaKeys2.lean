/- slices.Sorted(maps.Keys(m)) of the two kinds of maps. -/
import Derived.Test.YtgkblfegjmeolaaVaKeys
import Derived.Lib.LaidIn
namespace Go.Proofs.Ytgkblfegjmeolaa
open Go.RowKit Go.Maps Go.Sort Go.Shelf
theorem SlI.of_own {W w' : World} {v : Value} {ss : List Int} {ks : List Nat} (h : w'.ownsRow W.heap.size 3 1 v ss.length ((ss.mergeSort fun x y => decide (x ≤ y)).map encZ)) (he : (ss.mergeSort fun x y => decide (x ≤ y)) = ks.map (fun k : Nat => (k : Int))) (hl : ks.length = ss.length) : SlI W w' v ks := by
  have h0 := h
  rcases h.2 with ⟨rfl, hz⟩ | ⟨gb, cap, cur, rfl, hbase, hgb, r1, r2, r3, r4⟩
  · exact .inl ⟨rfl, List.eq_nil_of_length_eq_zero (hl.trans hz)⟩
  · refine .inr ⟨gb, cap, by rw [hl], hbase, lt_at hgb, fun i k hik => ?_⟩
    have hz : ((ss.mergeSort fun x y => decide (x ≤ y)).map encZ)[i]? = some (.int .i64 (k : Int)) := by
      rw [he, List.getElem?_map, List.getElem?_map, hik]; rfl
    have := World.ownsRow.cells h0 (g := gb) rfl i _ hz
    simpa [Go.WideShapes.add_plain] using this
theorem sorted_of {W w' : World} {R : RD} {b c : Nat} {f : Nat → Option Value} {D : DataW Unit} {v : Value} {ss : List Int} (h : W.ownsMap Try.prog 3 R b c D) (hf : Looks R D f) (hp : ss.Perm (intKeys D))
    (hr : w'.ownsRow W.heap.size 3 1 v ss.length ((ss.mergeSort fun x y => decide (x ≤ y)).map encZ)) : ∃ ks, Sk f ks ∧ ks.length ≤ c ∧ SlI W w' v ks := by
  obtain ⟨ks, h1, h2, h3, h4⟩ := sk_of hf (h.canon ikey) hp
  exact ⟨ks, h2, by rw [h3]; exact h.size_le, .of_own hr h1 h4⟩
set_option maxHeartbeats 1000000 in
theorem skeysA {w : World} {R : RD} {b c Bm : Nat} {f : Nat → Option Value} (h : MapF w R b c f) (hc : c ≤ 400000) (hB : Bm < w.heap.size) (hm : w.cell? ⟨Bm, 0, none⟩ = some (.map (some b))) :
    CallsIn Fence.wide 6 Try.prog 59 #[.func (.func 68) #[] #[.pointer (some ⟨Bm, 0, none⟩)]] w fun e w' => ∃ v ks, e = .returned v ∧ Sk f ks ∧ ks.length ≤ c ∧ SlI w w' v ks ∧ Below w.heap.size w w' := by
  obtain ⟨D, h1, h2⟩ := h
  have hs := h1.size_le
  have hseq : SeqGives Fence.wide 3 Try.prog 68 #[.pointer (some ⟨Bm, 0, none⟩)] encZ (fun ss => ss.Perm (intKeys D)) (Maps.size D) w :=
    AnyZI.keys_gives (ρ := Try.keysA_ren) { Try.keysA with } Fence.wide _ trivial rfl (by omega) Bm b c D w hB hm h1
  have cS := AnyZI.sorted_in Try.sortedA Fence.wide 6 trivial trivial trivial trivial rfl (by omega) (sortsA _) (enters_of Try.func67 (by kernel_rfl) rfl) 68 #[.pointer (some ⟨Bm, 0, none⟩)] trivial (enters_of Try.func68 (by kernel_rfl) rfl) _ (Maps.size D) (by simp only [maxLen]; omega) (by omega) _ hseq
  refine CallsIn.mono cS ?_
  rintro e w' ⟨v, ss, rfl, hp, hrow, hnil, hb⟩
  obtain ⟨ks, g1, g2, g3⟩ := sorted_of h1 h2 hp hrow
  exact ⟨v, ks, rfl, g1, g2, g3, hb⟩
set_option maxHeartbeats 1000000 in
theorem skeysB {w : World} {R : RD} {b c Bm : Nat} {f : Nat → Option Value} (h : MapF w R b c f) (hc : c ≤ 400000) (hB : Bm < w.heap.size) (hm : w.cell? ⟨Bm, 0, none⟩ = some (.map (some b))) :
    CallsIn Fence.wide 6 Try.prog 59 #[.func (.func 69) #[] #[.pointer (some ⟨Bm, 0, none⟩)]] w fun e w' => ∃ v ks, e = .returned v ∧ Sk f ks ∧ ks.length ≤ c ∧ SlI w w' v ks ∧ Below w.heap.size w w' := by
  obtain ⟨D, h1, h2⟩ := h
  have hs := h1.size_le
  have hseq : SeqGives Fence.wide 3 Try.prog 69 #[.pointer (some ⟨Bm, 0, none⟩)] encZ (fun ss => ss.Perm (intKeys D)) (Maps.size D) w :=
    AnyZI.keys_gives (ρ := Try.keysB_ren) { Try.keysB with } Fence.wide _ trivial rfl (by omega) Bm b c D w hB hm h1
  have cS := AnyZI.sorted_in Try.sortedA Fence.wide 6 trivial trivial trivial trivial rfl (by omega) (sortsA _) (enters_of Try.func67 (by kernel_rfl) rfl) 69 #[.pointer (some ⟨Bm, 0, none⟩)] trivial (enters_of Try.func69 (by kernel_rfl) rfl) _ (Maps.size D) (by simp only [maxLen]; omega) (by omega) _ hseq
  refine CallsIn.mono cS ?_
  rintro e w' ⟨v, ss, rfl, hp, hrow, hnil, hb⟩
  obtain ⟨ks, g1, g2, g3⟩ := sorted_of h1 h2 hp hrow
  exact ⟨v, ks, rfl, g1, g2, g3, hb⟩
theorem keysA_in (mb : Option Nat) (W : World) : CallsIn Fence.wide 6 Try.prog 60 #[.map mb] W fun e w' => e = .returned (.func (.func 68) #[] #[.pointer (some ⟨W.heap.size, 0, none⟩)]) ∧ w' = W.alloc (.cells #[.map mb] 84) := AnyZI.keys_in Try.keysA Fence.wide 6 trivial rfl mb W
theorem keysB_in (mb : Option Nat) (W : World) : CallsIn Fence.wide 6 Try.prog 65 #[.map mb] W fun e w' => e = .returned (.func (.func 69) #[] #[.pointer (some ⟨W.heap.size, 0, none⟩)]) ∧ w' = W.alloc (.cells #[.map mb] 54) := AnyZI.keys_in Try.keysB Fence.wide 6 trivial rfl mb W
end Go.Proofs.Ytgkblfegjmeolaa
