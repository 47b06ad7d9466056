/- The walk of the law NamesNames. Condition: unicode/utf8's two tables hold what the program's text lays. -/
import Derived.Test.YtponbhhkccpbfaaDoorNmMore
namespace Go.Proofs.YtponbhhkccpbfaaDoor
open Go.RowKit Go.Lib Go.Shelf
def fixedD : List (List UInt8) := fixedN.map fun s => s.data.toList
theorem fixed_find (k : Nat) (s : ByteArray) (h : fixedN[k]? = some s) : tbN.find s = some k := by
  have hk : k < 62 := by have := (List.getElem?_eq_some_iff.1 h).1; rwa [fixed_length] at this
  have hall : ∀ k : Fin 62, fixedD.findIdx? (fun t => decide (t = fixedD[k.1]!)) = some k.1 := by decide +kernel
  have h1 := hall ⟨k, hk⟩
  have h2 : fixedD[k]! = s.data.toList := by
    have : fixedD[k]? = some s.data.toList := by simp [fixedD, h]
    simp [List.getElem!_eq_getElem?_getD, this]
  rw [tbN_find, List.findIdx?_map]
  simp only [h2] at h1
  rw [fixedD, List.findIdx?_map] at h1
  rw [← h1]
  congr 1
theorem fixed_sym (k : Nat) (s : ByteArray) (h : fixedN[k]? = some s) : tbN.syms[k]? = some (fy s true) := by
  unfold tbN
  rw [addAll_syms]
  simp [h]
theorem fixed_ck (s : ByteArray) (h : s ∈ fixedN) : ckD s = 0 := by
  have : (fixedN.all fun s => validD s.data.toList && decide (s.size ≤ 100)) = true := by decide +kernel
  have h2 := List.all_eq_true.1 this s h
  simp only [Bool.and_eq_true, decide_eq_true_eq] at h2
  exact ck_small s h2.1 (by omega)
theorem fixed_short (s : ByteArray) (h : s ∈ fixedN) : s.size ≤ 100 := by
  have : (fixedN.all fun s => validD s.data.toList && decide (s.size ≤ 100)) = true := by decide +kernel
  have h2 := List.all_eq_true.1 this s h
  simp only [Bool.and_eq_true, decide_eq_true_eq] at h2
  exact h2.2
theorem rpt_valid (l : List UInt8) (hl : validD l = true) (n : Nat) : validD (List.replicate n l).flatten = true := by
  induction n with
  | zero => rfl
  | succ n ih => rw [List.replicate_succ, List.flatten_cons, valid_append _ _ hl]; exact ih
theorem rpt_runes (l : List UInt8) (hl : validD l = true) (h1 : (runesD l).length = 1) (n : Nat) : (runesD (List.replicate n l).flatten).length = n := by
  induction n with
  | zero => rfl
  | succ n ih => rw [List.replicate_succ, List.flatten_cons, runes_append _ _ hl, List.length_append, ih, h1]; omega
theorem rpt_len (s : ByteArray) (hl : validD s.data.toList = true) (h1 : (runesD s.data.toList).length = 1) (n : Nat) : validD (rpt s n).data.toList = true ∧ lenD (rpt s n).data.toList = n := by
  rw [rpt_list]
  have hv := rpt_valid _ hl n
  exact ⟨hv, by unfold lenD; rw [if_pos hv]; exact rpt_runes _ hl h1 n⟩
abbrev aS : ByteArray := ⟨#[97]⟩
abbrev eS : ByteArray := ⟨#[195, 169]⟩
theorem ck_long : ckD (rpt aS 1001) = 4 := by
  obtain ⟨h1, h2⟩ := rpt_len aS (by decide +kernel) (by decide +kernel) 1001
  unfold ckD
  rw [if_pos h1, h2]
  rfl
theorem ck_long2 : ckD (rpt eS 1000) = 0 := by
  obtain ⟨h1, h2⟩ := rpt_len eS (by decide +kernel) (by decide +kernel) 1000
  unfold ckD
  rw [if_pos h1, h2]
  rfl
theorem rpt_size (s : ByteArray) (n : Nat) : (rpt s n).size = n * s.size := by
  have h : (rpt s n).data.toList.length = n * s.data.toList.length := by rw [rpt_list]; simp
  simpa using h
theorem find_long2 : tbN.find (rpt eS 1000) = none := by
  rw [tbN_find, List.findIdx?_eq_none_iff]
  intro y hy
  obtain ⟨s', hs', rfl⟩ := List.mem_map.1 hy
  have h := fixed_short s' hs'
  simp only [Bool.true_and, decide_eq_false_iff_not]
  intro e
  have h2 := congrArg List.length e
  have h3 := rpt_size eS 1000
  have h4 : (rpt eS 1000).data.toList.length = (rpt eS 1000).size := by simp
  have h5 : s'.data.toList.length = s'.size := by simp
  have h6 : eS.size = 2 := rfl
  omega
abbrev tbE : Tb := tbN.add (fy (rpt eS 1000) true)
theorem tbE_length : tbE.syms.length = 63 := by simp [Tb.add, tbN_length]
theorem intern_long2 : tbN.intern (rpt eS 1000) = (62, 0, tbE) := by
  unfold Tb.intern
  rw [if_neg (by rw [ck_long2]; decide), find_long2]
  simp only [tbN_length]
  rfl
theorem fresh_long : tbN.fresh (rpt aS 1001) = (0, 4, tbN) := by
  unfold Tb.fresh
  rw [if_pos (by rw [ck_long]; decide), ck_long]
theorem intern_ff : tbN.intern ⟨#[255]⟩ = (0, 5, tbN) := by
  have h : ckD ⟨#[255]⟩ = 5 := by decide +kernel
  unfold Tb.intern
  rw [if_pos (by rw [h]; decide), h]
theorem int_any (n : Int) (w : World) : Calls Tryd.prog 21 #[.int .i64 n] w fun e w' => e = .returned (wv (0, n)) ∧ Below w.heap.size w w' := by
  go_enter Tryd.func21, Tryd.ntmps21
  go_wp2
  exact bodyPost_ret (v := wv (0, n)) (by simp [results, Tryd.results21, go_sem]) rfl ⟨rfl, (Below.refl _ _).alloc (Nat.le_refl _) _⟩
set_option maxHeartbeats 400000 in
theorem sym_any (n : Int) (w : World) : Calls Tryd.prog 45 #[.int .i64 n] w fun e w' => e = .returned (wv (1, n)) ∧ Below w.heap.size w w' := by
  go_enter Tryd.func45, Tryd.ntmps45
  go_wp2
  exact bodyPost_ret (v := wv (1, n)) (by simp [results, Tryd.results45, go_sem]) rfl ⟨rfl, (Below.refl _ _).alloc (Nat.le_refl _) _⟩
set_option maxHeartbeats 400000 in
theorem nil_any (w : World) : Calls Tryd.prog 19 #[] w fun e w' => e = .returned (wv (1, 0)) ∧ Below w.heap.size w w' := by
  go_enter Tryd.func19, Tryd.ntmps19
  go_wp2_with fail
  refine (sym_any 0 _).mono ?_
  rintro e W ⟨rfl, hb1⟩
  have k0 : W.heap[w.heap.size]? = some (.cells #[.int .i64 0, .int .i64 0] 37 (0, 0)) := (hb1.block _ (by simp)).trans (alloc_at w _)
  have hbw : Below w.heap.size w W := ((Below.refl _ _).alloc (Nat.le_refl _) _).trans (hb1.mono (by simp))
  have d0 : W.cell? ⟨w.heap.size, 0, none⟩ = some (.int .i64 0) := cell_at k0
  have d1 : W.cell? ⟨w.heap.size, 1, none⟩ = some (.int .i64 0) := cell_at k0
  have e0 : W.frozen? ⟨w.heap.size, 0, none⟩ = false := frozen_at k0
  have e1 : W.frozen? ⟨w.heap.size, 1, none⟩ = false := frozen_at k0
  have HP := Lib.hid hbw
  clear hb1 k0 hbw
  go_wp2
  refine bodyPost_ret (v := wv (1, 0)) ?_ rfl ⟨rfl, (HP.out.setCell (Nat.le_refl _) _).setCell (Nat.le_refl _) _⟩
  simp [results, Tryd.results19, go_sem, d0, d1]
end Go.Proofs.YtponbhhkccpbfaaDoor
