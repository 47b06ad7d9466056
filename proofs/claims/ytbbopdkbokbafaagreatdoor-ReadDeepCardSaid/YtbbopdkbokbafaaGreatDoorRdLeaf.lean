/- The contracts of the reader's small functions that touch no memory of the reader's. -/
import Derived.Test.YtbbopdkbokbafaaGreatDoorRdMem
import Derived.WalkSpells
import Derived.WalkLawsBesides
namespace Go.Proofs.YtbbopdkbokbafaaGreatDoor
open Go.RowKit Go.Lib
set_option maxHeartbeats 1000000 in
theorem blank_any (c : Int) (w : World) : Calls Tryz.prog 22 #[.int .i64 c] w fun e w' => e = .returned (.bool (blank c)) ∧ w' = w := by
  by_cases h9 : c = 9
  · subst h9; go_enter Tryz.func22, Tryz.ntmps22; go_wp2; go_ret; exact ⟨rfl, rfl⟩
  by_cases h10 : c = 10
  · subst h10; go_enter Tryz.func22, Tryz.ntmps22; go_wp2; go_ret; exact ⟨rfl, rfl⟩
  by_cases h12 : c = 12
  · subst h12; go_enter Tryz.func22, Tryz.ntmps22; go_wp2; go_ret; exact ⟨rfl, rfl⟩
  by_cases h13 : c = 13
  · subst h13; go_enter Tryz.func22, Tryz.ntmps22; go_wp2; go_ret; exact ⟨rfl, rfl⟩
  by_cases h32 : c = 32
  · subst h32; go_enter Tryz.func22, Tryz.ntmps22; go_wp2; go_ret; exact ⟨rfl, rfl⟩
  have hb : blank c = false := by simp [blank, h9, h10, h12, h13, h32]
  rw [hb]
  go_enter Tryz.func22, Tryz.ntmps22
  go_wp2
  go_ret
  exact ⟨rfl, rfl⟩
set_option maxHeartbeats 1000000 in
theorem delim_any (c : Int) (w : World) : Calls Tryz.prog 23 #[.int .i64 c] w fun e w' => e = .returned (.bool (delim c)) ∧ w' = w := by
  by_cases h40 : c = 40
  · subst h40; go_enter Tryz.func23, Tryz.ntmps23; go_wp2; go_ret; exact ⟨rfl, rfl⟩
  by_cases h41 : c = 41
  · subst h41; go_enter Tryz.func23, Tryz.ntmps23; go_wp2; go_ret; exact ⟨rfl, rfl⟩
  by_cases h91 : c = 91
  · subst h91; go_enter Tryz.func23, Tryz.ntmps23; go_wp2; go_ret; exact ⟨rfl, rfl⟩
  by_cases h93 : c = 93
  · subst h93; go_enter Tryz.func23, Tryz.ntmps23; go_wp2; go_ret; exact ⟨rfl, rfl⟩
  by_cases h34 : c = 34
  · subst h34; go_enter Tryz.func23, Tryz.ntmps23; go_wp2; go_ret; exact ⟨rfl, rfl⟩
  by_cases h39 : c = 39
  · subst h39; go_enter Tryz.func23, Tryz.ntmps23; go_wp2; go_ret; exact ⟨rfl, rfl⟩
  by_cases h96 : c = 96
  · subst h96; go_enter Tryz.func23, Tryz.ntmps23; go_wp2; go_ret; exact ⟨rfl, rfl⟩
  by_cases h44 : c = 44
  · subst h44; go_enter Tryz.func23, Tryz.ntmps23; go_wp2; go_ret; exact ⟨rfl, rfl⟩
  by_cases h59 : c = 59
  · subst h59; go_enter Tryz.func23, Tryz.ntmps23; go_wp2; go_ret; exact ⟨rfl, rfl⟩
  have hb : delim c = blank c := by simp [delim, h40, h41, h91, h93, h34, h39, h96, h44, h59]
  rw [hb]
  have cB := blank_any c w
  generalize blank c = b at cB ⊢
  clear hb
  go_enter Tryz.func23, Tryz.ntmps23
  go_wp2_with (go_at_call 22; ((with_reducible refine cB.mono ?_); rintro e w' ⟨rfl, rfl⟩))
  go_ret
  exact ⟨rfl, rfl⟩
theorem ends_any (c : Int) (w : World) : Calls Tryz.prog 221 #[.int .i64 c] w fun e w' => e = .returned (.bool (ends c)) ∧ w' = w := by
  by_cases h1 : c = -1
  · subst h1
    go_enter Tryz.func221, Tryz.ntmps221
    go_wp2
    go_ret
    exact ⟨rfl, rfl⟩
  have hb : ends c = delim c := by simp [ends, h1]
  rw [hb]
  have cB := delim_any c w
  generalize delim c = b at cB ⊢
  clear hb
  go_enter Tryz.func221, Tryz.ntmps221
  go_wp2_with (go_at_call 23; ((with_reducible refine cB.mono ?_); rintro e w' ⟨rfl, rfl⟩))
  go_ret
  exact ⟨by simp [h1], rfl⟩
abbrev fv (er a : Int) : Value := .agg #[.int .i64 er, .int .i64 a]
theorem fault_any (er a : Int) (w : World) : Calls Tryz.prog 66 #[.int .i64 er, .int .i64 a] w fun e w' => e = .returned (fv er a) ∧ Below w.heap.size w w' := by
  go_enter Tryz.func66, Tryz.ntmps66
  go_wp2
  exact bodyPost_ret (v := fv er a) (by simp [results, Tryz.results66, go_sem]) rfl ⟨rfl, (Below.refl _ _).alloc (Nat.le_refl _) _⟩
set_option maxHeartbeats 400000 in
theorem malformed_any (a : Int) (w : World) : Calls Tryz.prog 168 #[.int .i64 a] w fun e w' => e = .returned (fv 5 a) ∧ Below w.heap.size w w' := by
  go_enter Tryz.func168, Tryz.ntmps168
  go_wp2_with fail
  refine (fault_any 5 a _).mono ?_
  rintro e W ⟨rfl, hb⟩
  have k0 : W.heap[w.heap.size]? = some (.cells #[.int .i64 0, .int .i64 0] 31 (0, 0)) := (hb.block _ (by simp)).trans (alloc_at w _)
  have hbw : Below w.heap.size w W := ((Below.refl _ _).alloc (Nat.le_refl _) _).trans (hb.mono (by simp))
  have d0 : W.cell? ⟨w.heap.size, 0, none⟩ = some (.int .i64 0) := cell_at k0
  have d1 : W.cell? ⟨w.heap.size, 1, none⟩ = some (.int .i64 0) := cell_at k0
  have e0 : W.frozen? ⟨w.heap.size, 0, none⟩ = false := frozen_at k0
  have e1 : W.frozen? ⟨w.heap.size, 1, none⟩ = false := frozen_at k0
  have HP := Lib.hid hbw
  clear hb k0 hbw
  go_wp2
  refine bodyPost_ret (v := fv 5 a) ?_ rfl ⟨rfl, (HP.out.setCell (Nat.le_refl _) _).setCell (Nat.le_refl _) _⟩
  simp [results, Tryz.results168, go_sem, d0, d1]
theorem symbol_any (n : Int) (w : World) : Calls Tryz.prog 214 #[.int .i64 n] w fun e w' => e = .returned (wv (1, n)) ∧ Below w.heap.size w w' := by
  go_enter Tryz.func214, Tryz.ntmps214
  go_wp2
  exact bodyPost_ret (v := wv (1, n)) (by simp [results, Tryz.results214, go_sem]) rfl ⟨rfl, (Below.refl _ _).alloc (Nat.le_refl _) _⟩
theorem integer_any (n : Int) (w : World) : Calls Tryz.prog 170 #[.int .i64 n] w fun e w' => e = .returned (wv (0, n)) ∧ Below w.heap.size w w' := by
  go_enter Tryz.func170, Tryz.ntmps170
  go_wp2
  exact bodyPost_ret (v := wv (0, n)) (by simp [results, Tryz.results170, go_sem]) rfl ⟨rfl, (Below.refl _ _).alloc (Nat.le_refl _) _⟩
theorem control_ok (c x st : Int) (h : control c = some x) (w : World) : Calls Tryz.prog 251 #[.int .i64 c, .int .i64 st] w fun e w' => e = .returned (.int .i64 x) ∧ w' = w := by
  unfold control at h
  by_cases h1 : c = 110
  · subst h1; simp at h; subst h; go_enter Tryz.func251, Tryz.ntmps251; go_wp2; go_ret; exact ⟨rfl, rfl⟩
  by_cases h2 : c = 116
  · subst h2; simp at h; subst h; go_enter Tryz.func251, Tryz.ntmps251; go_wp2; go_ret; exact ⟨rfl, rfl⟩
  by_cases h3 : c = 101
  · subst h3; simp at h; subst h; go_enter Tryz.func251, Tryz.ntmps251; go_wp2; go_ret; exact ⟨rfl, rfl⟩
  simp [h1, h2, h3] at h
theorem control_no (c st : Int) (h : control c = none) (w : World) : Calls Tryz.prog 251 #[.int .i64 c, .int .i64 st] w fun e w' => e = Panics 5 st ∧ Below w.heap.size w w' := by
  unfold control at h
  have h1 : ¬ c = 110 := fun e => by simp [e] at h
  have h2 : ¬ c = 116 := fun e => by simp [e] at h
  have h3 : ¬ c = 101 := fun e => by simp [e] at h
  clear h
  go_enter Tryz.func251, Tryz.ntmps251
  go_wp2_with fail
  refine (malformed_any st _).mono ?_
  rintro e W ⟨rfl, hb⟩
  go_wp2
  exact ⟨rfl, rfl, hb⟩
theorem modifier_any (c : Int) (w : World) : Calls Tryz.prog 253 #[.int .i64 c] w fun e w' => e = .returned (.int .i64 (modBit c)) ∧ w' = w := by
  by_cases h1 : c = 67
  · subst h1; go_enter Tryz.func253, Tryz.ntmps253; go_wp2; go_ret; exact ⟨rfl, rfl⟩
  by_cases h2 : c = 77
  · subst h2; go_enter Tryz.func253, Tryz.ntmps253; go_wp2; go_ret; exact ⟨rfl, rfl⟩
  by_cases h3 : c = 83
  · subst h3; go_enter Tryz.func253, Tryz.ntmps253; go_wp2; go_ret; exact ⟨rfl, rfl⟩
  have hb : modBit c = 0 := by simp [modBit, h1, h2, h3]
  rw [hb]
  go_enter Tryz.func253, Tryz.ntmps253
  go_wp2
  go_ret
  exact ⟨rfl, rfl⟩
theorem isLetter_any (c : Int) (w : World) : Calls Tryz.prog 254 #[.int .i64 c] w fun e w' => e = .returned (.bool (isLet c)) ∧ w' = w := by
  unfold isLet
  by_cases h1 : 97 ≤ c <;> by_cases h2 : c ≤ 122 <;> by_cases h3 : 65 ≤ c <;> by_cases h4 : c ≤ 90 <;> simp only [h1, h2, h3, h4, decide_true, decide_false, Bool.and_true, Bool.and_false, Bool.or_true, Bool.or_false] <;>
    (go_enter Tryz.func254, Tryz.ntmps254; go_wp2; go_ret; exact ⟨rfl, rfl⟩)
theorem isDigit_any (c : Int) (w : World) : Calls Tryz.prog 273 #[.int .i64 c] w fun e w' => e = .returned (.bool (isHex c)) ∧ w' = w := by
  unfold isHex
  by_cases h1 : 48 ≤ c <;> by_cases h2 : c ≤ 57 <;> by_cases h3 : 97 ≤ c <;> by_cases h4 : c ≤ 102 <;> by_cases h5 : 65 ≤ c <;> by_cases h6 : c ≤ 70 <;> first | (exfalso; omega) | (simp only [h1, h2, h3, h4, h5, h6, decide_true, decide_false, Bool.and_true, Bool.and_false, Bool.or_true, Bool.or_false]; go_enter Tryz.func273, Tryz.ntmps273; go_wp2; go_ret; exact ⟨rfl, rfl⟩)
theorem digitValue_any (c : Int) (w : World) (h0 : 0 ≤ c) (hc : c ≤ 2000000) : Calls Tryz.prog 274 #[.int .i64 c] w fun e w' => e = .returned (.int .i64 (hexV c)) ∧ w' = w := by
  unfold hexV
  by_cases h1 : c ≤ 57
  · rw [if_pos h1]
    go_enter Tryz.func274, Tryz.ntmps274
    go_wp2
    go_ret
    exact ⟨rfl, rfl⟩
  · rw [if_neg h1]
    have ht : c.tmod 32 = c % 32 := Int.tmod_eq_emod_of_nonneg h0
    go_enter Tryz.func274, Tryz.ntmps274
    go_wp2
    go_ret
    exact ⟨rfl, rfl⟩
end Go.Proofs.YtbbopdkbokbafaaGreatDoor
