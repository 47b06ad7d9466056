/- Get at any number. -/
import Derived.Test.YtgkblfegjmeolaaVaWGet
import Derived.Test.YtgkblfegjmeolaaVaDo
namespace Go.Proofs.Ytgkblfegjmeolaa
open Go.RowKit Go.Lib Go.Shelf
set_option maxHeartbeats 2000000 in
set_option maxRecDepth 100000 in
theorem wget_bad {w : World} {vb : Nat} {G : Nat → Nat} {m : Vs} (h : VarsW w vb G m) (n : Int) (hn : n < 0 ∨ 16384 ≤ n) :
    Calls Try.prog 15 #[hptr vb, .int .i64 n] w fun e w' => e = .returned (.tuple #[wv (0, 0), .bool false]) ∧ Below w.heap.size w w' := by
  obtain ⟨cm, hR⟩ := h.gready
  have cK := check_bad vb cm n _ hn (hR.cell _ (Below.refl _ _))
  have HR := Lib.hid hR
  have CK := Lib.hid cK
  clear h hn cK hR
  go_enter Try.func15, Try.ntmps15
  go_wp2_with fail
  generalize w.alloc (.cells #[.int .i64 0, .int .i64 0] 28) = wb at *
  refine CK.out.mono ?_
  rintro e w1 ⟨rfl, rfl⟩
  obtain ⟨z0, z1, f0, f1⟩ := HR.out.old (Below.refl _ _)
  obtain ⟨d0, d1, d2, _⟩ := HR.out.put (Below.refl _ _) (0, 0)
  have HF := Lib.hid (And.intro d2 HR.out.below)
  clear d2
  go_wp2
  refine bodyPost_ret (v := .tuple #[wv (0, 0), .bool false]) ?_ rfl ⟨rfl, HF.out.1⟩
  simp [results, Try.results15, go_sem, d0, d1]
/-- What Get says at any number. -/
def gt (m : Vs) (n : Int) : Cl := if inV n = true then m.at (m.home n.toNat) n.toNat else noC
theorem wgetI_any {w : World} {vb : Nat} {G : Nat → Nat} {m : Vs} (h : VarsW w vb G m) (n : Int) :
    Calls Try.prog 15 #[hptr vb, .int .i64 n] w fun e w' => e = .returned (.tuple #[wv (gt m n).1, .bool (gt m n).2]) ∧ Below w.heap.size w w' := by
  unfold gt
  by_cases hn : inV n = true
  · rw [if_pos hn]
    unfold inV at hn
    obtain ⟨h1, h2⟩ := Bool.and_eq_true_iff.1 hn
    have h1 := of_decide_eq_true h1
    have h2 := of_decide_eq_true h2
    obtain ⟨k, rfl⟩ := Int.eq_ofNat_of_zero_le h1
    exact wget_ok h k (Int.ofNat_lt.1 h2)
  · rw [if_neg hn]
    exact wget_bad h n (inV_no hn)
end Go.Proofs.Ytgkblfegjmeolaa
