/- Const, Special, checkChange, home, MarkConst at variables that stand. -/
import Derived.Test.YtgkblfegjmeolaaVaVars
namespace Go.Proofs.Ytgkblfegjmeolaa
open Go.RowKit Go.Lib
theorem below_drewN (w : World) (q : Nat) : Below w.heap.size w (w.drewN q) := ⟨rfl, rfl, rfl, Nat.le_refl _, fun _ _ => rfl⟩
set_option maxRecDepth 100000 in
theorem const_ok {w : World} {vb : Nat} {G : Nat → Nat} {m : Vs} (h : VarsAt w vb G m) (n : Nat) (hn : n < 16384) :
    Calls Try.prog 25 #[hptr vb, .int .i64 n] w fun e w' => e = .returned (.bool (hasC (m.marks n))) ∧ w' = w := by
  obtain ⟨cm, mm, bv, sc, cb, h1, h2, h3, _, _⟩ := h.celled
  have cM := marked_c vb cm mm n (m.marks n) w hn (cell_at h1) (cell_at h1) (mark_look h3 hn) (h.marks n)
  clear h h1 h2 h3 hn
  go_enter Try.func25, Try.ntmps25
  go_wp2_with fail
  refine cM.mono ?_
  rintro e w1 ⟨rfl, rfl⟩
  go_wp2
  go_ret
  exact ⟨rfl, rfl⟩
set_option maxRecDepth 100000 in
theorem special_ok {w : World} {vb : Nat} {G : Nat → Nat} {m : Vs} (h : VarsAt w vb G m) (n : Nat) (hn : n < 16384) :
    Calls Try.prog 24 #[hptr vb, .int .i64 n] w fun e w' => e = .returned (.bool (hasS (m.marks n))) ∧ w' = w := by
  obtain ⟨cm, mm, bv, sc, cb, h1, h2, h3, _, _⟩ := h.celled
  have cM := marked_s vb cm mm n (m.marks n) w hn (cell_at h1) (cell_at h1) (mark_look h3 hn) (h.marks n)
  clear h h1 h2 h3 hn
  go_enter Try.func24, Try.ntmps24
  go_wp2_with fail
  refine cM.mono ?_
  rintro e w1 ⟨rfl, rfl⟩
  go_wp2
  go_ret
  exact ⟨rfl, rfl⟩
set_option maxRecDepth 100000 in
theorem change_any {w : World} {vb : Nat} {G : Nat → Nat} {m : Vs} (h : VarsAt w vb G m) (n : Nat) (hn : n < 16384) :
    Calls Try.prog 38 #[hptr vb, .int .i64 n] w fun e w' => e = .returned (.int .i64 (if hasC (m.marks n) then 10 else 0)) ∧ w' = w := by
  obtain ⟨cm, mm, bv, sc, cb, h1, _, _, _, _⟩ := h.celled
  have cK := check_ok vb cm n w hn (cell_at h1)
  have cC := const_ok h n hn
  clear h h1 hn
  generalize hasC (m.marks n) = b at *
  cases b
  all_goals
    go_enter Try.func38, Try.ntmps38
    go_wp2_with fail
    refine cK.mono ?_
    rintro e w1 ⟨rfl, rfl⟩
    go_wp2_with fail
    refine cC.mono ?_
    rintro e w1 ⟨rfl, rfl⟩
    go_wp2
    go_ret
    exact ⟨rfl, rfl⟩
set_option maxRecDepth 100000 in
theorem change_bad {w : World} {vb : Nat} {G : Nat → Nat} {m : Vs} (h : VarsAt w vb G m) (n : Int) (hn : n < 0 ∨ 16384 ≤ n) :
    Calls Try.prog 38 #[hptr vb, .int .i64 n] w fun e w' => e = .returned (.int .i64 8) ∧ w' = w := by
  obtain ⟨cm, mm, bv, sc, cb, h1, _, _, _, _⟩ := h.celled
  have cK := check_bad vb cm n w hn (cell_at h1)
  clear h h1 hn
  go_enter Try.func38, Try.ntmps38
  go_wp2_with fail
  refine cK.mono ?_
  rintro e w1 ⟨rfl, rfl⟩
  go_wp2
  go_ret
  exact ⟨rfl, rfl⟩
/-- The scope in which a variable has its cell. -/
def Vs.home (m : Vs) (n : Nat) : Nat := if (m.cells m.scope n).isSome then m.scope else 0
theorem VarsAt.home_le {w : World} {vb : Nat} {G : Nat → Nat} {m : Vs} (h : VarsAt w vb G m) (n : Nat) : m.home n ≤ 65536 := by
  have := h.scope
  unfold Vs.home
  split <;> omega
set_option maxRecDepth 100000 in
theorem home_any {w : World} {vb : Nat} {G : Nat → Nat} {m : Vs} (h : VarsAt w vb G m) (n : Nat) (hn : n < 16384) :
    Calls Try.prog 44 #[hptr vb, .int .i64 n] w fun e w' => e = .returned (.int .i64 (m.home n)) ∧ ∃ q, w' = w.drewN q := by
  obtain ⟨cm, mm, bv, sc, cb, h1, h2, _, _, _⟩ := h.celled
  have cH := fun q => has_any (w := w.drewN q) (h2.below (below_drewN w q)) m.scope n h.scope hn
  rw [h2.some_iff] at cH
  have c0 : w.cell? ⟨vb, 0, none⟩ = some (.map (some cm)) := cell_at h1
  have c1 : w.cell? ⟨vb, 1, none⟩ = some (.int .i64 m.scope) := cell_at h1
  unfold Vs.home
  have CH := Lib.hid cH
  clear h h1 h2 hn cH
  generalize m.scope = s at *
  generalize (m.cells s n).isSome = b at *
  cases b
  all_goals
    go_enter Try.func44, Try.ntmps44
    go_wp2_with fail
    go_quiet ((go_at_call 42; exact Calls.quiet_of_same (CH.out _)))
    go_wp2
    go_ret
    exact ⟨rfl, _, rfl⟩
end Go.Proofs.Ytgkblfegjmeolaa
