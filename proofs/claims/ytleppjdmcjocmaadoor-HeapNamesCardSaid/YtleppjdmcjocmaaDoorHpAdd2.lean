/- The walk of add where there is room, given what place does. -/
import Derived.Test.YtleppjdmcjocmaaDoorHpAdd
namespace Go.Proofs.YtleppjdmcjocmaaDoor
open Go.RowKit Go.Lib
set_option maxHeartbeats 1000000 in
theorem add_walk_pair (hb b : Nat) (lim m st s r kd i : Int) (w : World) (P : World → Prop) (hbl : hb < w.heap.size)
    (c0 : w.cell? ⟨hb, 0, none⟩ = some (.int .i64 lim)) (c3 : w.cell? ⟨hb, 3, none⟩ = some (.int .i64 st)) (f3 : w.frozen? ⟨hb, 3, none⟩ = false)
    (hm : (m == lim) = false) (hs : s ≤ r) (hs0 : 0 ≤ s) (hst : 0 ≤ st) (hst2 : st + s ≤ 1048576)
    (cM : Reads w 19 #[hptr hb] (.int .i64 m)) (cS : Reads w 85 #[.pointer (some ⟨b, 0, none⟩)] (.int .i64 s)) (cR : Reads w 20 #[hptr hb] (.int .i64 r))
    (cK : ∀ W, Calls Tryd.prog 50 #[.iface 69 (.pointer (some ⟨b, 0, none⟩))] W fun e w' => e = .returned (.int .i64 kd) ∧ w' = W)
    (cP : ∀ d, Calls Tryd.prog 51 #[hptr hb, .iface 69 (.pointer (some ⟨b, 0, none⟩))] (((w.alloc (.cells #[.int .i64 0, .int .i64 0] 28)).drewN d).setCell ⟨hb, 3, none⟩ (.int .i64 (st + s)))
      fun e w' => e = .returned (.int .i64 i) ∧ w'.heap[w.heap.size]? = some (.cells #[.int .i64 0, .int .i64 0] 28 (0, 0)) ∧ P w') :
    Calls Tryd.prog 37 #[hptr hb, .iface 69 (.pointer (some ⟨b, 0, none⟩))] w fun e w' => e = .returned (.tuple #[wv (kd, i), .int .i64 0]) ∧
      ∃ w3, P w3 ∧ w3.heap[w.heap.size]? = some (.cells #[.int .i64 0, .int .i64 0] 28 (0, 0)) ∧ w' = (w3.setCell ⟨w.heap.size, 0, none⟩ (.int .i64 kd)).setCell ⟨w.heap.size, 1, none⟩ (.int .i64 i) := by
  have CM := Lib.hid cM
  have CS := Lib.hid cS
  have CR := Lib.hid cR
  have CK := Lib.hid cK
  have CP := Lib.hid cP
  have hmt := mt_size_pair b
  have hs1 : ¬ r < s := by omega
  clear cM cS cR cK cP
  go_enter Tryd.func37, Tryd.ntmps37
  go_wp2
  go_quiet (first | (go_at_call 19; exact Calls.quiet_of (CM.out _ (((Old.refl _).alloc (Nat.le_refl _) _).drewN _))) | (go_at_call 85; exact Calls.quiet_of (CS.out _ (((Old.refl _).alloc (Nat.le_refl _) _).drewN _))) | (go_at_call 20; exact Calls.quiet_of (CR.out _ (((Old.refl _).alloc (Nat.le_refl _) _).drewN _))))
  go_wp2
  go_region_with (go_at_call 85; refine (CS.out _ ?_).mono ?_; exact ((((Old.refl _).alloc (Nat.le_refl _) _).drewN _)); rintro e w' ⟨rfl, d, rfl⟩)
  all_goals
    go_wp2_with (go_at_call 50; ((with_reducible refine (CK.out _).mono ?_); rintro e w' ⟨rfl, rfl⟩))
    refine (CP.out _).mono ?_
    rintro e w3 ⟨rfl, h3, hP⟩
    have d0 : w3.cell? ⟨w.heap.size, 0, none⟩ = some (.int .i64 0) := cell_at h3
    have d1 : w3.cell? ⟨w.heap.size, 1, none⟩ = some (.int .i64 0) := cell_at h3
    have e0 : w3.frozen? ⟨w.heap.size, 0, none⟩ = false := frozen_at h3
    have e1 : w3.frozen? ⟨w.heap.size, 1, none⟩ = false := frozen_at h3
    have HP := Lib.hid hP
    have H3 := Lib.hid h3
    clear hP h3
    go_wp2
    exact bodyPost_ret (v := .tuple #[wv (kd, i), .int .i64 0]) (by simp [results, Tryd.results37, go_sem, d0, d1]) rfl ⟨rfl, w3, HP.out, H3.out, rfl⟩
set_option maxHeartbeats 1000000 in
theorem add_walk_text (hb b : Nat) (lim m st s r kd i : Int) (w : World) (P : World → Prop) (hbl : hb < w.heap.size)
    (c0 : w.cell? ⟨hb, 0, none⟩ = some (.int .i64 lim)) (c3 : w.cell? ⟨hb, 3, none⟩ = some (.int .i64 st)) (f3 : w.frozen? ⟨hb, 3, none⟩ = false)
    (hm : (m == lim) = false) (hs : s ≤ r) (hs0 : 0 ≤ s) (hst : 0 ≤ st) (hst2 : st + s ≤ 1048576)
    (cM : Reads w 19 #[hptr hb] (.int .i64 m)) (cS : Reads w 87 #[.pointer (some ⟨b, 0, none⟩)] (.int .i64 s)) (cR : Reads w 20 #[hptr hb] (.int .i64 r))
    (cK : ∀ W, Calls Tryd.prog 50 #[.iface 74 (.pointer (some ⟨b, 0, none⟩))] W fun e w' => e = .returned (.int .i64 kd) ∧ w' = W)
    (cP : ∀ d, Calls Tryd.prog 51 #[hptr hb, .iface 74 (.pointer (some ⟨b, 0, none⟩))] (((w.alloc (.cells #[.int .i64 0, .int .i64 0] 28)).drewN d).setCell ⟨hb, 3, none⟩ (.int .i64 (st + s)))
      fun e w' => e = .returned (.int .i64 i) ∧ w'.heap[w.heap.size]? = some (.cells #[.int .i64 0, .int .i64 0] 28 (0, 0)) ∧ P w') :
    Calls Tryd.prog 37 #[hptr hb, .iface 74 (.pointer (some ⟨b, 0, none⟩))] w fun e w' => e = .returned (.tuple #[wv (kd, i), .int .i64 0]) ∧
      ∃ w3, P w3 ∧ w3.heap[w.heap.size]? = some (.cells #[.int .i64 0, .int .i64 0] 28 (0, 0)) ∧ w' = (w3.setCell ⟨w.heap.size, 0, none⟩ (.int .i64 kd)).setCell ⟨w.heap.size, 1, none⟩ (.int .i64 i) := by
  have CM := Lib.hid cM
  have CS := Lib.hid cS
  have CR := Lib.hid cR
  have CK := Lib.hid cK
  have CP := Lib.hid cP
  have hmt := mt_size_text b
  have hs1 : ¬ r < s := by omega
  clear cM cS cR cK cP
  go_enter Tryd.func37, Tryd.ntmps37
  go_wp2
  go_quiet (first | (go_at_call 19; exact Calls.quiet_of (CM.out _ (((Old.refl _).alloc (Nat.le_refl _) _).drewN _))) | (go_at_call 87; exact Calls.quiet_of (CS.out _ (((Old.refl _).alloc (Nat.le_refl _) _).drewN _))) | (go_at_call 20; exact Calls.quiet_of (CR.out _ (((Old.refl _).alloc (Nat.le_refl _) _).drewN _))))
  go_wp2
  go_region_with (go_at_call 87; refine (CS.out _ ?_).mono ?_; exact ((((Old.refl _).alloc (Nat.le_refl _) _).drewN _)); rintro e w' ⟨rfl, d, rfl⟩)
  all_goals
    go_wp2_with (go_at_call 50; ((with_reducible refine (CK.out _).mono ?_); rintro e w' ⟨rfl, rfl⟩))
    refine (CP.out _).mono ?_
    rintro e w3 ⟨rfl, h3, hP⟩
    have d0 : w3.cell? ⟨w.heap.size, 0, none⟩ = some (.int .i64 0) := cell_at h3
    have d1 : w3.cell? ⟨w.heap.size, 1, none⟩ = some (.int .i64 0) := cell_at h3
    have e0 : w3.frozen? ⟨w.heap.size, 0, none⟩ = false := frozen_at h3
    have e1 : w3.frozen? ⟨w.heap.size, 1, none⟩ = false := frozen_at h3
    have HP := Lib.hid hP
    have H3 := Lib.hid h3
    clear hP h3
    go_wp2
    exact bodyPost_ret (v := .tuple #[wv (kd, i), .int .i64 0]) (by simp [results, Tryd.results37, go_sem, d0, d1]) rfl ⟨rfl, w3, HP.out, H3.out, rfl⟩
set_option maxHeartbeats 1000000 in
theorem add_walk_vec (hb b : Nat) (lim m st s r kd i : Int) (w : World) (P : World → Prop) (hbl : hb < w.heap.size)
    (c0 : w.cell? ⟨hb, 0, none⟩ = some (.int .i64 lim)) (c3 : w.cell? ⟨hb, 3, none⟩ = some (.int .i64 st)) (f3 : w.frozen? ⟨hb, 3, none⟩ = false)
    (hm : (m == lim) = false) (hs : s ≤ r) (hs0 : 0 ≤ s) (hst : 0 ≤ st) (hst2 : st + s ≤ 1048576)
    (cM : Reads w 19 #[hptr hb] (.int .i64 m)) (cS : Reads w 89 #[.pointer (some ⟨b, 0, none⟩)] (.int .i64 s)) (cR : Reads w 20 #[hptr hb] (.int .i64 r))
    (cK : ∀ W, Calls Tryd.prog 50 #[.iface 82 (.pointer (some ⟨b, 0, none⟩))] W fun e w' => e = .returned (.int .i64 kd) ∧ w' = W)
    (cP : ∀ d, Calls Tryd.prog 51 #[hptr hb, .iface 82 (.pointer (some ⟨b, 0, none⟩))] (((w.alloc (.cells #[.int .i64 0, .int .i64 0] 28)).drewN d).setCell ⟨hb, 3, none⟩ (.int .i64 (st + s)))
      fun e w' => e = .returned (.int .i64 i) ∧ w'.heap[w.heap.size]? = some (.cells #[.int .i64 0, .int .i64 0] 28 (0, 0)) ∧ P w') :
    Calls Tryd.prog 37 #[hptr hb, .iface 82 (.pointer (some ⟨b, 0, none⟩))] w fun e w' => e = .returned (.tuple #[wv (kd, i), .int .i64 0]) ∧
      ∃ w3, P w3 ∧ w3.heap[w.heap.size]? = some (.cells #[.int .i64 0, .int .i64 0] 28 (0, 0)) ∧ w' = (w3.setCell ⟨w.heap.size, 0, none⟩ (.int .i64 kd)).setCell ⟨w.heap.size, 1, none⟩ (.int .i64 i) := by
  have CM := Lib.hid cM
  have CS := Lib.hid cS
  have CR := Lib.hid cR
  have CK := Lib.hid cK
  have CP := Lib.hid cP
  have hmt := mt_size_vector b
  have hs1 : ¬ r < s := by omega
  clear cM cS cR cK cP
  go_enter Tryd.func37, Tryd.ntmps37
  go_wp2
  go_quiet (first | (go_at_call 19; exact Calls.quiet_of (CM.out _ (((Old.refl _).alloc (Nat.le_refl _) _).drewN _))) | (go_at_call 89; exact Calls.quiet_of (CS.out _ (((Old.refl _).alloc (Nat.le_refl _) _).drewN _))) | (go_at_call 20; exact Calls.quiet_of (CR.out _ (((Old.refl _).alloc (Nat.le_refl _) _).drewN _))))
  go_wp2
  go_region_with (go_at_call 89; refine (CS.out _ ?_).mono ?_; exact ((((Old.refl _).alloc (Nat.le_refl _) _).drewN _)); rintro e w' ⟨rfl, d, rfl⟩)
  all_goals
    go_wp2_with (go_at_call 50; ((with_reducible refine (CK.out _).mono ?_); rintro e w' ⟨rfl, rfl⟩))
    refine (CP.out _).mono ?_
    rintro e w3 ⟨rfl, h3, hP⟩
    have d0 : w3.cell? ⟨w.heap.size, 0, none⟩ = some (.int .i64 0) := cell_at h3
    have d1 : w3.cell? ⟨w.heap.size, 1, none⟩ = some (.int .i64 0) := cell_at h3
    have e0 : w3.frozen? ⟨w.heap.size, 0, none⟩ = false := frozen_at h3
    have e1 : w3.frozen? ⟨w.heap.size, 1, none⟩ = false := frozen_at h3
    have HP := Lib.hid hP
    have H3 := Lib.hid h3
    clear hP h3
    go_wp2
    exact bodyPost_ret (v := .tuple #[wv (kd, i), .int .i64 0]) (by simp [results, Tryd.results37, go_sem, d0, d1]) rfl ⟨rfl, w3, HP.out, H3.out, rfl⟩
set_option maxHeartbeats 1000000 in
theorem add_walk_code (hb b : Nat) (lim m st s r kd i : Int) (w : World) (P : World → Prop) (hbl : hb < w.heap.size)
    (c0 : w.cell? ⟨hb, 0, none⟩ = some (.int .i64 lim)) (c3 : w.cell? ⟨hb, 3, none⟩ = some (.int .i64 st)) (f3 : w.frozen? ⟨hb, 3, none⟩ = false)
    (hm : (m == lim) = false) (hs : s ≤ r) (hs0 : 0 ≤ s) (hst : 0 ≤ st) (hst2 : st + s ≤ 1048576)
    (cM : Reads w 19 #[hptr hb] (.int .i64 m)) (cS : Reads w 91 #[.pointer (some ⟨b, 0, none⟩)] (.int .i64 s)) (cR : Reads w 20 #[hptr hb] (.int .i64 r))
    (cK : ∀ W, Calls Tryd.prog 50 #[.iface 94 (.pointer (some ⟨b, 0, none⟩))] W fun e w' => e = .returned (.int .i64 kd) ∧ w' = W)
    (cP : ∀ d, Calls Tryd.prog 51 #[hptr hb, .iface 94 (.pointer (some ⟨b, 0, none⟩))] (((w.alloc (.cells #[.int .i64 0, .int .i64 0] 28)).drewN d).setCell ⟨hb, 3, none⟩ (.int .i64 (st + s)))
      fun e w' => e = .returned (.int .i64 i) ∧ w'.heap[w.heap.size]? = some (.cells #[.int .i64 0, .int .i64 0] 28 (0, 0)) ∧ P w') :
    Calls Tryd.prog 37 #[hptr hb, .iface 94 (.pointer (some ⟨b, 0, none⟩))] w fun e w' => e = .returned (.tuple #[wv (kd, i), .int .i64 0]) ∧
      ∃ w3, P w3 ∧ w3.heap[w.heap.size]? = some (.cells #[.int .i64 0, .int .i64 0] 28 (0, 0)) ∧ w' = (w3.setCell ⟨w.heap.size, 0, none⟩ (.int .i64 kd)).setCell ⟨w.heap.size, 1, none⟩ (.int .i64 i) := by
  have CM := Lib.hid cM
  have CS := Lib.hid cS
  have CR := Lib.hid cR
  have CK := Lib.hid cK
  have CP := Lib.hid cP
  have hmt := mt_size_code b
  have hs1 : ¬ r < s := by omega
  clear cM cS cR cK cP
  go_enter Tryd.func37, Tryd.ntmps37
  go_wp2
  go_quiet (first | (go_at_call 19; exact Calls.quiet_of (CM.out _ (((Old.refl _).alloc (Nat.le_refl _) _).drewN _))) | (go_at_call 91; exact Calls.quiet_of (CS.out _ (((Old.refl _).alloc (Nat.le_refl _) _).drewN _))) | (go_at_call 20; exact Calls.quiet_of (CR.out _ (((Old.refl _).alloc (Nat.le_refl _) _).drewN _))))
  go_wp2
  go_region_with (go_at_call 91; refine (CS.out _ ?_).mono ?_; exact ((((Old.refl _).alloc (Nat.le_refl _) _).drewN _)); rintro e w' ⟨rfl, d, rfl⟩)
  all_goals
    go_wp2_with (go_at_call 50; ((with_reducible refine (CK.out _).mono ?_); rintro e w' ⟨rfl, rfl⟩))
    refine (CP.out _).mono ?_
    rintro e w3 ⟨rfl, h3, hP⟩
    have d0 : w3.cell? ⟨w.heap.size, 0, none⟩ = some (.int .i64 0) := cell_at h3
    have d1 : w3.cell? ⟨w.heap.size, 1, none⟩ = some (.int .i64 0) := cell_at h3
    have e0 : w3.frozen? ⟨w.heap.size, 0, none⟩ = false := frozen_at h3
    have e1 : w3.frozen? ⟨w.heap.size, 1, none⟩ = false := frozen_at h3
    have HP := Lib.hid hP
    have H3 := Lib.hid h3
    clear hP h3
    go_wp2
    exact bodyPost_ret (v := .tuple #[wv (kd, i), .int .i64 0]) (by simp [results, Tryd.results37, go_sem, d0, d1]) rfl ⟨rfl, w3, HP.out, H3.out, rfl⟩
end Go.Proofs.YtleppjdmcjocmaaDoor
