/- The contract of Live. -/
import Derived.Test.YtleppjdmcjocmaaDoorHpOps2
namespace Go.Proofs.YtleppjdmcjocmaaDoor
open Go.RowKit Go.Lib
/-- The kinds that are live whatever their number. -/
def plainKind (k : Int) : Bool := k == 0 || k == 1 || k == 5 || k == 7 || k == 8 || k == 9 || k == 10
def Hp.live (m : Hp) (x : Wd) : Bool := plainKind x.1 || (m.find x).isSome
set_option maxHeartbeats 1000000 in
theorem live_plain (hb : Nat) (x : Wd) (w : World) (cV : ValidIn w hb) (hk : x.1 = 0 ∨ x.1 = 1 ∨ x.1 = 5 ∨ x.1 = 7 ∨ x.1 = 8 ∨ x.1 = 9 ∨ x.1 = 10) :
    Calls Tryd.prog 32 #[hptr hb, wv x] w fun e w' => e = .returned (.bool true) ∧ Below w.heap.size w w' := by
  have CV := Lib.hid cV
  clear cV
  obtain ⟨k, n⟩ := x
  simp only at hk
  rcases hk with rfl | rfl | rfl | rfl | rfl | rfl | rfl
  all_goals
    go_enter Tryd.func32, Tryd.ntmps32
    go_wp2_with (go_at_call 36; refine (CV.out _ ?_).mono ?_; exact (Old.refl _).alloc (Nat.le_refl _) _; rintro e w' ⟨rfl, rfl⟩)
    go_ret
    exact ⟨rfl, (Below.refl _ _).alloc (Nat.le_refl _) _⟩
set_option maxHeartbeats 1000000 in
theorem live_find (hb : Nat) (x : Wd) (v : Value) (r : Bool) (w : World) (cV : ValidIn w hb) (cF : FindIn w hb x v) (h0 : (x.1 == 0) = false) (h1 : (x.1 == 1) = false) (h2 : (x.1 == 5) = false) (h3 : (x.1 == 7) = false) (h4 : (x.1 == 8) = false) (h5 : (x.1 == 9) = false) (h6 : (x.1 == 10) = false)
    (hr : (v = .nilIface ∧ r = false) ∨ (∃ T p, v = .iface T p) ∧ r = true) :
    Calls Tryd.prog 32 #[hptr hb, wv x] w fun e w' => e = .returned (.bool r) ∧ Below w.heap.size w w' := by
  have CV := Lib.hid cV
  have CF := Lib.hid cF
  clear cV cF
  rcases hr with ⟨rfl, rfl⟩ | ⟨⟨T, p, rfl⟩, rfl⟩
  all_goals
    go_enter Tryd.func32, Tryd.ntmps32
    go_wp2_with (go_at_call 36; refine (CV.out _ ?_).mono ?_; exact (Old.refl _).alloc (Nat.le_refl _) _; rintro e w' ⟨rfl, rfl⟩)
    refine (CF.out _ ((Old.refl _).alloc (Nat.le_refl _) _) (by simp)).mono ?_
    rintro e W ⟨rfl, hb1⟩
    have hbw : Below w.heap.size w W := ((Below.refl _ _).alloc (Nat.le_refl _) _).trans (hb1.mono (by simp))
    have HP := Lib.hid hbw
    clear hb1 hbw
    go_wp2
    go_ret
    exact ⟨rfl, HP.out⟩
theorem live_any {w : World} {hb : Nat} {G : Nat → Nat} {m : Hp} (h : HeapAt w hb G m) (x : Wd) :
    Calls Tryd.prog 32 #[hptr hb, wv x] w fun e w' => e = .returned (.bool (m.live x)) ∧ Below w.heap.size w w' := by
  by_cases hk : x.1 = 0 ∨ x.1 = 1 ∨ x.1 = 5 ∨ x.1 = 7 ∨ x.1 = 8 ∨ x.1 = 9 ∨ x.1 = 10
  · have e : m.live x = true := by
      simp only [Hp.live, plainKind]
      rcases hk with h | h | h | h | h | h | h <;> simp [h]
    rw [e]
    exact live_plain hb x w h.valid hk
  · have hk2 : plainKind x.1 = false := by
      simp only [plainKind]
      simp only [not_or] at hk
      simp [hk]
    have e : m.live x = (m.find x).isSome := by simp [Hp.live, hk2]
    rw [e]
    simp only [not_or] at hk
    have hb0 : ∀ a : Int, ¬ x.1 = a → (x.1 == a) = false := fun a ha => by rw [beq_eq_false_iff_ne]; exact ha
    cases hf : m.find x with
    | none => exact live_find hb x _ _ w h.valid (h.find_none hf) (hb0 _ hk.1) (hb0 _ hk.2.1) (hb0 _ hk.2.2.1) (hb0 _ hk.2.2.2.1) (hb0 _ hk.2.2.2.2.1) (hb0 _ hk.2.2.2.2.2.1) (hb0 _ hk.2.2.2.2.2.2) (.inl ⟨rfl, rfl⟩)
    | some o =>
      obtain ⟨v, _, hv, cF, _⟩ := h.find_some hf
      obtain ⟨T, b, rfl, _⟩ := hv.iface
      exact live_find hb x _ _ w h.valid cF (hb0 _ hk.1) (hb0 _ hk.2.1) (hb0 _ hk.2.2.1) (hb0 _ hk.2.2.2.1) (hb0 _ hk.2.2.2.2.1) (hb0 _ hk.2.2.2.2.2.1) (hb0 _ hk.2.2.2.2.2.2) (.inr ⟨⟨_, _, rfl⟩, rfl⟩)
end Go.Proofs.YtleppjdmcjocmaaDoor
