/- Locals, in a scope that has no variables. -/
import Derived.Test.YtgkblfegjmeolaaVaLoc
import Derived.Test.YtgkblfegjmeolaaVaShelf
namespace Go.Proofs.Ytgkblfegjmeolaa
open Go.RowKit Go.Maps Go.Sort Go.Shelf
theorem sortsA (m : Nat) : AnyZI.SortsIn Try.prog Try.sortedA_ren Fence.wide m :=
  ⟨fun blk off cap ss W hH hblk hsz => callsIn_wide.2 (AnyM.slices_Sort_int Try.sortA blk off cap ss W hH hblk hsz),
   fun p cap W => callsIn_wide.2 (AnyM.slices_Sort_int_none Try.sortA p cap W)⟩
theorem VarsAt.noScope {w : World} {vb : Nat} {G : Nat → Nat} {m : Vs} (h : VarsAt w vb G m) (k : Nat) (hk : k ≤ 65536) (hno : ∀ n, m.cells k n = none) : ∃ cm, w.cell? ⟨vb, 0, none⟩ = some (.map (some cm)) ∧
    (Instr.lookup 54 (.map (some cm)) (.int .i64 (k : Int)) false).run Try.prog w = .ok (.map none) w := by
  obtain ⟨cm, mm, bv, sc, cb, h1, h2, h3, hFu, hfin⟩ := h.celled
  refine ⟨cm, cell_at h1, ?_⟩
  have l := h2.look1 k hk
  cases hs : sc k with
  | none => rw [hs] at l; exact l
  | some b =>
    obtain ⟨n, hn⟩ := hFu k b hs
    rw [h2.some_iff, hno n] at hn
    cases hn
set_option maxHeartbeats 1000000 in
theorem locals_none {w : World} {vb : Nat} {G : Nat → Nat} {m : Vs} (h : VarsAt w vb G m) (k : Nat) (h1 : 1 ≤ k) (h2 : k ≤ 65536) (hno : ∀ n, m.cells k n = none) :
    Calls Try.prog 33 #[hptr vb, .int .i64 k] w fun e w' => e = .returned (.slice none 0 0) ∧ Below w.heap.size w w' := by
  obtain ⟨cm, c0, l0⟩ := h.noScope k h2 hno
  have cV := (callsIn_wide (n := 6)).2 h.valid
  have cI := (callsIn_wide (n := 6)).2 (isScope_yes k w h1 h2)
  clear h h1 h2 hno
  refine (callsIn_wide (n := 7)).1 ?_
  have hseq : SeqGives Fence.wide 3 Try.prog 68 #[.pointer (some ⟨w.heap.size, 0, none⟩)] encZ (fun ss : List Int => ss = []) 0 (w.alloc (.cells #[.map none] 84)) :=
    AnyZI.keys_gives_nil (ρ := Try.keysA_ren) { Try.keysA with } Fence.wide _ trivial rfl w.heap.size _ (by simp) (by simp)
  have cK : ∀ mb W, CallsIn Fence.wide 6 Try.prog 60 #[.map mb] W fun e w' => e = .returned (.func (.func 68) #[] #[.pointer (some ⟨W.heap.size, 0, none⟩)]) ∧ w' = W.alloc (.cells #[.map mb] 84) := fun mb W => AnyZI.keys_in Try.keysA Fence.wide 6 trivial rfl mb W
  have cS := AnyZI.sorted_in Try.sortedA Fence.wide 6 trivial trivial trivial trivial rfl (by omega) (sortsA _) (enters_of Try.func67 (by kernel_rfl) rfl) 68 #[.pointer (some ⟨w.heap.size, 0, none⟩)] trivial (enters_of Try.func68 (by kernel_rfl) rfl) _ 0 (Nat.zero_le _) (by omega) _ hseq
  change CallsIn _ _ Try.prog 59 _ _ _ at cS
  have hfK : Fence.wide.fn 60 := trivial
  have hfS : Fence.wide.fn 59 := trivial
  have hfV : Fence.wide.fn 40 := trivial
  have hfI : Fence.wide.fn 41 := trivial
  refine callsIn_of_wp Try.func33 rfl trivial ?_ rfl
  simp only [Try.ntmps33, List.size_toArray, List.length_cons, List.length_nil, Nat.reduceAdd, Nat.reduceSub, Array.replicate_succ, Array.replicate_zero, List.push_toArray, List.append_toArray, List.nil_append, List.cons_append]
  gi_wp2_with (first
    | (gi_at_call 40; refine cV.mono ?_; rintro e w' ⟨rfl, rfl⟩)
    | (gi_at_call 41; refine cI.mono ?_; rintro e w' ⟨rfl, rfl⟩)
    | (gi_at_call 60; refine (cK _ _).mono ?_; rintro e w' ⟨rfl, rfl⟩)
    | (gi_at_call 59; refine cS.mono ?_; rintro e w' ⟨v, ss, rfl, rfl, hrow, hnil, hb⟩; obtain rfl : v = .slice none 0 0 := hnil.2 rfl))
  go_ret
  exact ⟨rfl, ((Below.refl _ _).alloc (Nat.le_refl _) _).trans (hb.mono (by simp))⟩
end Go.Proofs.Ytgkblfegjmeolaa
