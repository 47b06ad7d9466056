import Derived.Test.YtbbopdkbokbafaaGreatDoorHpPlace
import Derived.Deep.RegionWith
/- The contract of add: an object is stored under the smallest free number, where no number below the length is free; or there is no room. -/
namespace Go.Proofs.YtbbopdkbokbafaaGreatDoor
open Go.RowKit Go.Lib
/-- All blocks of w stand in W. -/
def Old (w W : World) : Prop := ∀ k, k < w.heap.size → W.heap[k]? = w.heap[k]?
theorem Old.refl (w : World) : Old w w := fun _ _ => rfl
theorem Old.alloc {w W : World} (h : Old w W) (hs : w.heap.size ≤ W.heap.size) (o : Obj) : Old w (W.alloc o) := fun k hk => (Below.heap_alloc _ _ _ (by omega)).trans (h k hk)
theorem Old.drewN {w W : World} (h : Old w W) (n : Nat) : Old w (W.drewN n) := h
theorem Old.drew {w W : World} (h : Old w W) : Old w W.drew := h
/-- A contract of a function that only reads, in any world in which the blocks of w stand. -/
abbrev Reads (w : World) (f : FuncId) (args : Array Value) (v : Value) : Prop := ∀ W, Old w W → Calls Tryz.prog f args W fun e w' => e = .returned v ∧ ∃ d, w' = W.drewN d
theorem Reads.of_same {w : World} {f : FuncId} {args : Array Value} {v : Value} (h : ∀ W, Old w W → Calls Tryz.prog f args W fun e w' => e = .returned v ∧ w' = W) : Reads w f args v := fun W hW => (h W hW).mono fun _ _ ⟨he, hw⟩ => ⟨he, 0, hw⟩
/-- What add leaves where it has stored: the heap's own block and its row of objects. -/
structure Added (w w' : World) (hb : Nat) (G : Nat → Nat) (lim st : Int) (vf : Value) (n : Nat) (xs : List Value) : Prop where
  os : w'.os = w.os
  tape : w'.tape = w.tape
  output : w'.output = w.output
  size : w.heap.size ≤ w'.heap.size
  block : ∀ k, k < w.heap.size → G k ≠ 1 → G k ≠ 2 → w'.heap[k]? = w.heap[k]?
  lies : ∃ vo', w'.heap[hb]? = some (.cells #[.int .i64 lim, vo', vf, .int .i64 st] 135 (0, 0)) ∧ Row w' (fun k => if k < w.heap.size then G k else 2) 2 96 1 vo' n xs
set_option maxHeartbeats 1000000 in
theorem add_full (hb : Nat) (lim : Int) (x : Value) (w : World) (hbl : hb < w.heap.size) (c0 : w.cell? ⟨hb, 0, none⟩ = some (.int .i64 lim)) (cM : Reads w 35 #[hptr hb] (.int .i64 lim)) :
    Calls Tryz.prog 101 #[hptr hb, x] w fun e w' => e = .returned (.tuple #[wv (0, 0), .int .i64 7]) ∧ Below w.heap.size w w' := by
  have CM := Lib.hid cM
  clear cM
  go_enter Tryz.func101, Tryz.ntmps101
  go_wp2
  go_quiet ((go_at_call 35; exact Calls.quiet_of (CM.out _ (((Old.refl _).alloc (Nat.le_refl _) _).drewN _))))
  go_wp2
  exact bodyPost_ret (v := .tuple #[wv (0, 0), .int .i64 7]) (by simp [results, Tryz.results101, go_sem]) rfl ⟨rfl, ((((Below.refl _ _).alloc (Nat.le_refl _) _).drewN _).setCell (Nat.le_refl _) _).setCell (Nat.le_refl _) _⟩
set_option maxHeartbeats 1000000 in
theorem add_big_pair (hb b : Nat) (lim m s r : Int) (w : World) (hbl : hb < w.heap.size) (c0 : w.cell? ⟨hb, 0, none⟩ = some (.int .i64 lim)) (hm : (m == lim) = false) (hs : r < s)
    (cM : Reads w 35 #[hptr hb] (.int .i64 m)) (cS : Reads w 324 #[.pointer (some ⟨b, 0, none⟩)] (.int .i64 s)) (cR : Reads w 145 #[hptr hb] (.int .i64 r)) :
    Calls Tryz.prog 101 #[hptr hb, .iface 93 (.pointer (some ⟨b, 0, none⟩))] w fun e w' => e = .returned (.tuple #[wv (0, 0), .int .i64 7]) ∧ Below w.heap.size w w' := by
  have CM := Lib.hid cM
  have CS := Lib.hid cS
  have CR := Lib.hid cR
  clear cM cS cR
  have hmt := mt_size_pair b
  go_enter Tryz.func101, Tryz.ntmps101
  go_wp2
  go_quiet (first | (go_at_call 35; exact Calls.quiet_of (CM.out _ (((Old.refl _).alloc (Nat.le_refl _) _).drewN _))) | (go_at_call 324; exact Calls.quiet_of (CS.out _ (((Old.refl _).alloc (Nat.le_refl _) _).drewN _))) | (go_at_call 145; exact Calls.quiet_of (CR.out _ (((Old.refl _).alloc (Nat.le_refl _) _).drewN _))))
  go_wp2
  exact bodyPost_ret (v := .tuple #[wv (0, 0), .int .i64 7]) (by simp [results, Tryz.results101, go_sem]) rfl ⟨rfl, ((((Below.refl _ _).alloc (Nat.le_refl _) _).drewN _).setCell (Nat.le_refl _) _).setCell (Nat.le_refl _) _⟩
set_option maxHeartbeats 1000000 in
theorem add_big_text (hb b : Nat) (lim m s r : Int) (w : World) (hbl : hb < w.heap.size) (c0 : w.cell? ⟨hb, 0, none⟩ = some (.int .i64 lim)) (hm : (m == lim) = false) (hs : r < s)
    (cM : Reads w 35 #[hptr hb] (.int .i64 m)) (cS : Reads w 329 #[.pointer (some ⟨b, 0, none⟩)] (.int .i64 s)) (cR : Reads w 145 #[hptr hb] (.int .i64 r)) :
    Calls Tryz.prog 101 #[hptr hb, .iface 140 (.pointer (some ⟨b, 0, none⟩))] w fun e w' => e = .returned (.tuple #[wv (0, 0), .int .i64 7]) ∧ Below w.heap.size w w' := by
  have CM := Lib.hid cM
  have CS := Lib.hid cS
  have CR := Lib.hid cR
  clear cM cS cR
  have hmt := mt_size_text b
  go_enter Tryz.func101, Tryz.ntmps101
  go_wp2
  go_quiet (first | (go_at_call 35; exact Calls.quiet_of (CM.out _ (((Old.refl _).alloc (Nat.le_refl _) _).drewN _))) | (go_at_call 329; exact Calls.quiet_of (CS.out _ (((Old.refl _).alloc (Nat.le_refl _) _).drewN _))) | (go_at_call 145; exact Calls.quiet_of (CR.out _ (((Old.refl _).alloc (Nat.le_refl _) _).drewN _))))
  go_wp2
  exact bodyPost_ret (v := .tuple #[wv (0, 0), .int .i64 7]) (by simp [results, Tryz.results101, go_sem]) rfl ⟨rfl, ((((Below.refl _ _).alloc (Nat.le_refl _) _).drewN _).setCell (Nat.le_refl _) _).setCell (Nat.le_refl _) _⟩
set_option maxHeartbeats 1000000 in
theorem add_big_vec (hb b : Nat) (lim m s r : Int) (w : World) (hbl : hb < w.heap.size) (c0 : w.cell? ⟨hb, 0, none⟩ = some (.int .i64 lim)) (hm : (m == lim) = false) (hs : r < s)
    (cM : Reads w 35 #[hptr hb] (.int .i64 m)) (cS : Reads w 334 #[.pointer (some ⟨b, 0, none⟩)] (.int .i64 s)) (cR : Reads w 145 #[hptr hb] (.int .i64 r)) :
    Calls Tryz.prog 101 #[hptr hb, .iface 206 (.pointer (some ⟨b, 0, none⟩))] w fun e w' => e = .returned (.tuple #[wv (0, 0), .int .i64 7]) ∧ Below w.heap.size w w' := by
  have CM := Lib.hid cM
  have CS := Lib.hid cS
  have CR := Lib.hid cR
  clear cM cS cR
  have hmt := mt_size_vector b
  go_enter Tryz.func101, Tryz.ntmps101
  go_wp2
  go_quiet (first | (go_at_call 35; exact Calls.quiet_of (CM.out _ (((Old.refl _).alloc (Nat.le_refl _) _).drewN _))) | (go_at_call 334; exact Calls.quiet_of (CS.out _ (((Old.refl _).alloc (Nat.le_refl _) _).drewN _))) | (go_at_call 145; exact Calls.quiet_of (CR.out _ (((Old.refl _).alloc (Nat.le_refl _) _).drewN _))))
  go_wp2
  exact bodyPost_ret (v := .tuple #[wv (0, 0), .int .i64 7]) (by simp [results, Tryz.results101, go_sem]) rfl ⟨rfl, ((((Below.refl _ _).alloc (Nat.le_refl _) _).drewN _).setCell (Nat.le_refl _) _).setCell (Nat.le_refl _) _⟩
set_option maxHeartbeats 1000000 in
theorem add_big_code (hb b : Nat) (lim m s r : Int) (w : World) (hbl : hb < w.heap.size) (c0 : w.cell? ⟨hb, 0, none⟩ = some (.int .i64 lim)) (hm : (m == lim) = false) (hs : r < s)
    (cM : Reads w 35 #[hptr hb] (.int .i64 m)) (cS : Reads w 336 #[.pointer (some ⟨b, 0, none⟩)] (.int .i64 s)) (cR : Reads w 145 #[hptr hb] (.int .i64 r)) :
    Calls Tryz.prog 101 #[hptr hb, .iface 215 (.pointer (some ⟨b, 0, none⟩))] w fun e w' => e = .returned (.tuple #[wv (0, 0), .int .i64 7]) ∧ Below w.heap.size w w' := by
  have CM := Lib.hid cM
  have CS := Lib.hid cS
  have CR := Lib.hid cR
  clear cM cS cR
  have hmt := mt_size_code b
  go_enter Tryz.func101, Tryz.ntmps101
  go_wp2
  go_quiet (first | (go_at_call 35; exact Calls.quiet_of (CM.out _ (((Old.refl _).alloc (Nat.le_refl _) _).drewN _))) | (go_at_call 336; exact Calls.quiet_of (CS.out _ (((Old.refl _).alloc (Nat.le_refl _) _).drewN _))) | (go_at_call 145; exact Calls.quiet_of (CR.out _ (((Old.refl _).alloc (Nat.le_refl _) _).drewN _))))
  go_wp2
  exact bodyPost_ret (v := .tuple #[wv (0, 0), .int .i64 7]) (by simp [results, Tryz.results101, go_sem]) rfl ⟨rfl, ((((Below.refl _ _).alloc (Nat.le_refl _) _).drewN _).setCell (Nat.le_refl _) _).setCell (Nat.le_refl _) _⟩
end Go.Proofs.YtbbopdkbokbafaaGreatDoor

/- The walk of add where there is room, given what place does. -/
namespace Go.Proofs.YtbbopdkbokbafaaGreatDoor
open Go.RowKit Go.Lib
set_option maxHeartbeats 1000000 in
theorem add_walk_pair (hb b : Nat) (lim m st s r kd i : Int) (w : World) (P : World → Prop) (hbl : hb < w.heap.size)
    (c0 : w.cell? ⟨hb, 0, none⟩ = some (.int .i64 lim)) (c3 : w.cell? ⟨hb, 3, none⟩ = some (.int .i64 st)) (f3 : w.frozen? ⟨hb, 3, none⟩ = false)
    (hm : (m == lim) = false) (hs : s ≤ r) (hs0 : 0 ≤ s) (hst : 0 ≤ st) (hst2 : st + s ≤ 1048576)
    (cM : Reads w 35 #[hptr hb] (.int .i64 m)) (cS : Reads w 324 #[.pointer (some ⟨b, 0, none⟩)] (.int .i64 s)) (cR : Reads w 145 #[hptr hb] (.int .i64 r))
    (cK : ∀ W, Calls Tryz.prog 115 #[.iface 93 (.pointer (some ⟨b, 0, none⟩))] W fun e w' => e = .returned (.int .i64 kd) ∧ w' = W)
    (cP : ∀ d, Calls Tryz.prog 146 #[hptr hb, .iface 93 (.pointer (some ⟨b, 0, none⟩))] (((w.alloc (.cells #[.int .i64 0, .int .i64 0] 28)).drewN d).setCell ⟨hb, 3, none⟩ (.int .i64 (st + s)))
      fun e w' => e = .returned (.int .i64 i) ∧ w'.heap[w.heap.size]? = some (.cells #[.int .i64 0, .int .i64 0] 28 (0, 0)) ∧ P w') :
    Calls Tryz.prog 101 #[hptr hb, .iface 93 (.pointer (some ⟨b, 0, none⟩))] w fun e w' => e = .returned (.tuple #[wv (kd, i), .int .i64 0]) ∧
      ∃ w3, P w3 ∧ w3.heap[w.heap.size]? = some (.cells #[.int .i64 0, .int .i64 0] 28 (0, 0)) ∧ w' = (w3.setCell ⟨w.heap.size, 0, none⟩ (.int .i64 kd)).setCell ⟨w.heap.size, 1, none⟩ (.int .i64 i) := by
  have CM := Lib.hid cM
  have CS := Lib.hid cS
  have CR := Lib.hid cR
  have CK := Lib.hid cK
  have CP := Lib.hid cP
  have hmt := mt_size_pair b
  have hs1 : ¬ r < s := by omega
  clear cM cS cR cK cP
  go_enter Tryz.func101, Tryz.ntmps101
  go_wp2
  go_quiet (first | (go_at_call 35; exact Calls.quiet_of (CM.out _ (((Old.refl _).alloc (Nat.le_refl _) _).drewN _))) | (go_at_call 324; exact Calls.quiet_of (CS.out _ (((Old.refl _).alloc (Nat.le_refl _) _).drewN _))) | (go_at_call 145; exact Calls.quiet_of (CR.out _ (((Old.refl _).alloc (Nat.le_refl _) _).drewN _))))
  go_wp2
  go_region_with (go_at_call 324; refine (CS.out _ ?_).mono ?_; exact ((((Old.refl _).alloc (Nat.le_refl _) _).drewN _)); rintro e w' ⟨rfl, d, rfl⟩)
  all_goals
    go_wp2_with (go_at_call 115; ((with_reducible refine (CK.out _).mono ?_); rintro e w' ⟨rfl, rfl⟩))
    refine (CP.out _).mono ?_
    rintro e w3 ⟨rfl, h3, hP⟩
    have d0 : w3.cell? ⟨w.heap.size, 0, none⟩ = some (.int .i64 0) := cell_at h3
    have d1 : w3.cell? ⟨w.heap.size, 1, none⟩ = some (.int .i64 0) := cell_at h3
    have e0 : w3.frozen? ⟨w.heap.size, 0, none⟩ = false := frozen_at h3
    have e1 : w3.frozen? ⟨w.heap.size, 1, none⟩ = false := frozen_at h3
    have HP := Lib.hid hP
    have H3 := Lib.hid h3
    clear hP h3
    go_wp2
    exact bodyPost_ret (v := .tuple #[wv (kd, i), .int .i64 0]) (by simp [results, Tryz.results101, go_sem, d0, d1]) rfl ⟨rfl, w3, HP.out, H3.out, rfl⟩
set_option maxHeartbeats 1000000 in
theorem add_walk_text (hb b : Nat) (lim m st s r kd i : Int) (w : World) (P : World → Prop) (hbl : hb < w.heap.size)
    (c0 : w.cell? ⟨hb, 0, none⟩ = some (.int .i64 lim)) (c3 : w.cell? ⟨hb, 3, none⟩ = some (.int .i64 st)) (f3 : w.frozen? ⟨hb, 3, none⟩ = false)
    (hm : (m == lim) = false) (hs : s ≤ r) (hs0 : 0 ≤ s) (hst : 0 ≤ st) (hst2 : st + s ≤ 1048576)
    (cM : Reads w 35 #[hptr hb] (.int .i64 m)) (cS : Reads w 329 #[.pointer (some ⟨b, 0, none⟩)] (.int .i64 s)) (cR : Reads w 145 #[hptr hb] (.int .i64 r))
    (cK : ∀ W, Calls Tryz.prog 115 #[.iface 140 (.pointer (some ⟨b, 0, none⟩))] W fun e w' => e = .returned (.int .i64 kd) ∧ w' = W)
    (cP : ∀ d, Calls Tryz.prog 146 #[hptr hb, .iface 140 (.pointer (some ⟨b, 0, none⟩))] (((w.alloc (.cells #[.int .i64 0, .int .i64 0] 28)).drewN d).setCell ⟨hb, 3, none⟩ (.int .i64 (st + s)))
      fun e w' => e = .returned (.int .i64 i) ∧ w'.heap[w.heap.size]? = some (.cells #[.int .i64 0, .int .i64 0] 28 (0, 0)) ∧ P w') :
    Calls Tryz.prog 101 #[hptr hb, .iface 140 (.pointer (some ⟨b, 0, none⟩))] w fun e w' => e = .returned (.tuple #[wv (kd, i), .int .i64 0]) ∧
      ∃ w3, P w3 ∧ w3.heap[w.heap.size]? = some (.cells #[.int .i64 0, .int .i64 0] 28 (0, 0)) ∧ w' = (w3.setCell ⟨w.heap.size, 0, none⟩ (.int .i64 kd)).setCell ⟨w.heap.size, 1, none⟩ (.int .i64 i) := by
  have CM := Lib.hid cM
  have CS := Lib.hid cS
  have CR := Lib.hid cR
  have CK := Lib.hid cK
  have CP := Lib.hid cP
  have hmt := mt_size_text b
  have hs1 : ¬ r < s := by omega
  clear cM cS cR cK cP
  go_enter Tryz.func101, Tryz.ntmps101
  go_wp2
  go_quiet (first | (go_at_call 35; exact Calls.quiet_of (CM.out _ (((Old.refl _).alloc (Nat.le_refl _) _).drewN _))) | (go_at_call 329; exact Calls.quiet_of (CS.out _ (((Old.refl _).alloc (Nat.le_refl _) _).drewN _))) | (go_at_call 145; exact Calls.quiet_of (CR.out _ (((Old.refl _).alloc (Nat.le_refl _) _).drewN _))))
  go_wp2
  go_region_with (go_at_call 329; refine (CS.out _ ?_).mono ?_; exact ((((Old.refl _).alloc (Nat.le_refl _) _).drewN _)); rintro e w' ⟨rfl, d, rfl⟩)
  all_goals
    go_wp2_with (go_at_call 115; ((with_reducible refine (CK.out _).mono ?_); rintro e w' ⟨rfl, rfl⟩))
    refine (CP.out _).mono ?_
    rintro e w3 ⟨rfl, h3, hP⟩
    have d0 : w3.cell? ⟨w.heap.size, 0, none⟩ = some (.int .i64 0) := cell_at h3
    have d1 : w3.cell? ⟨w.heap.size, 1, none⟩ = some (.int .i64 0) := cell_at h3
    have e0 : w3.frozen? ⟨w.heap.size, 0, none⟩ = false := frozen_at h3
    have e1 : w3.frozen? ⟨w.heap.size, 1, none⟩ = false := frozen_at h3
    have HP := Lib.hid hP
    have H3 := Lib.hid h3
    clear hP h3
    go_wp2
    exact bodyPost_ret (v := .tuple #[wv (kd, i), .int .i64 0]) (by simp [results, Tryz.results101, go_sem, d0, d1]) rfl ⟨rfl, w3, HP.out, H3.out, rfl⟩
set_option maxHeartbeats 1000000 in
theorem add_walk_vec (hb b : Nat) (lim m st s r kd i : Int) (w : World) (P : World → Prop) (hbl : hb < w.heap.size)
    (c0 : w.cell? ⟨hb, 0, none⟩ = some (.int .i64 lim)) (c3 : w.cell? ⟨hb, 3, none⟩ = some (.int .i64 st)) (f3 : w.frozen? ⟨hb, 3, none⟩ = false)
    (hm : (m == lim) = false) (hs : s ≤ r) (hs0 : 0 ≤ s) (hst : 0 ≤ st) (hst2 : st + s ≤ 1048576)
    (cM : Reads w 35 #[hptr hb] (.int .i64 m)) (cS : Reads w 334 #[.pointer (some ⟨b, 0, none⟩)] (.int .i64 s)) (cR : Reads w 145 #[hptr hb] (.int .i64 r))
    (cK : ∀ W, Calls Tryz.prog 115 #[.iface 206 (.pointer (some ⟨b, 0, none⟩))] W fun e w' => e = .returned (.int .i64 kd) ∧ w' = W)
    (cP : ∀ d, Calls Tryz.prog 146 #[hptr hb, .iface 206 (.pointer (some ⟨b, 0, none⟩))] (((w.alloc (.cells #[.int .i64 0, .int .i64 0] 28)).drewN d).setCell ⟨hb, 3, none⟩ (.int .i64 (st + s)))
      fun e w' => e = .returned (.int .i64 i) ∧ w'.heap[w.heap.size]? = some (.cells #[.int .i64 0, .int .i64 0] 28 (0, 0)) ∧ P w') :
    Calls Tryz.prog 101 #[hptr hb, .iface 206 (.pointer (some ⟨b, 0, none⟩))] w fun e w' => e = .returned (.tuple #[wv (kd, i), .int .i64 0]) ∧
      ∃ w3, P w3 ∧ w3.heap[w.heap.size]? = some (.cells #[.int .i64 0, .int .i64 0] 28 (0, 0)) ∧ w' = (w3.setCell ⟨w.heap.size, 0, none⟩ (.int .i64 kd)).setCell ⟨w.heap.size, 1, none⟩ (.int .i64 i) := by
  have CM := Lib.hid cM
  have CS := Lib.hid cS
  have CR := Lib.hid cR
  have CK := Lib.hid cK
  have CP := Lib.hid cP
  have hmt := mt_size_vector b
  have hs1 : ¬ r < s := by omega
  clear cM cS cR cK cP
  go_enter Tryz.func101, Tryz.ntmps101
  go_wp2
  go_quiet (first | (go_at_call 35; exact Calls.quiet_of (CM.out _ (((Old.refl _).alloc (Nat.le_refl _) _).drewN _))) | (go_at_call 334; exact Calls.quiet_of (CS.out _ (((Old.refl _).alloc (Nat.le_refl _) _).drewN _))) | (go_at_call 145; exact Calls.quiet_of (CR.out _ (((Old.refl _).alloc (Nat.le_refl _) _).drewN _))))
  go_wp2
  go_region_with (go_at_call 334; refine (CS.out _ ?_).mono ?_; exact ((((Old.refl _).alloc (Nat.le_refl _) _).drewN _)); rintro e w' ⟨rfl, d, rfl⟩)
  all_goals
    go_wp2_with (go_at_call 115; ((with_reducible refine (CK.out _).mono ?_); rintro e w' ⟨rfl, rfl⟩))
    refine (CP.out _).mono ?_
    rintro e w3 ⟨rfl, h3, hP⟩
    have d0 : w3.cell? ⟨w.heap.size, 0, none⟩ = some (.int .i64 0) := cell_at h3
    have d1 : w3.cell? ⟨w.heap.size, 1, none⟩ = some (.int .i64 0) := cell_at h3
    have e0 : w3.frozen? ⟨w.heap.size, 0, none⟩ = false := frozen_at h3
    have e1 : w3.frozen? ⟨w.heap.size, 1, none⟩ = false := frozen_at h3
    have HP := Lib.hid hP
    have H3 := Lib.hid h3
    clear hP h3
    go_wp2
    exact bodyPost_ret (v := .tuple #[wv (kd, i), .int .i64 0]) (by simp [results, Tryz.results101, go_sem, d0, d1]) rfl ⟨rfl, w3, HP.out, H3.out, rfl⟩
set_option maxHeartbeats 1000000 in
theorem add_walk_code (hb b : Nat) (lim m st s r kd i : Int) (w : World) (P : World → Prop) (hbl : hb < w.heap.size)
    (c0 : w.cell? ⟨hb, 0, none⟩ = some (.int .i64 lim)) (c3 : w.cell? ⟨hb, 3, none⟩ = some (.int .i64 st)) (f3 : w.frozen? ⟨hb, 3, none⟩ = false)
    (hm : (m == lim) = false) (hs : s ≤ r) (hs0 : 0 ≤ s) (hst : 0 ≤ st) (hst2 : st + s ≤ 1048576)
    (cM : Reads w 35 #[hptr hb] (.int .i64 m)) (cS : Reads w 336 #[.pointer (some ⟨b, 0, none⟩)] (.int .i64 s)) (cR : Reads w 145 #[hptr hb] (.int .i64 r))
    (cK : ∀ W, Calls Tryz.prog 115 #[.iface 215 (.pointer (some ⟨b, 0, none⟩))] W fun e w' => e = .returned (.int .i64 kd) ∧ w' = W)
    (cP : ∀ d, Calls Tryz.prog 146 #[hptr hb, .iface 215 (.pointer (some ⟨b, 0, none⟩))] (((w.alloc (.cells #[.int .i64 0, .int .i64 0] 28)).drewN d).setCell ⟨hb, 3, none⟩ (.int .i64 (st + s)))
      fun e w' => e = .returned (.int .i64 i) ∧ w'.heap[w.heap.size]? = some (.cells #[.int .i64 0, .int .i64 0] 28 (0, 0)) ∧ P w') :
    Calls Tryz.prog 101 #[hptr hb, .iface 215 (.pointer (some ⟨b, 0, none⟩))] w fun e w' => e = .returned (.tuple #[wv (kd, i), .int .i64 0]) ∧
      ∃ w3, P w3 ∧ w3.heap[w.heap.size]? = some (.cells #[.int .i64 0, .int .i64 0] 28 (0, 0)) ∧ w' = (w3.setCell ⟨w.heap.size, 0, none⟩ (.int .i64 kd)).setCell ⟨w.heap.size, 1, none⟩ (.int .i64 i) := by
  have CM := Lib.hid cM
  have CS := Lib.hid cS
  have CR := Lib.hid cR
  have CK := Lib.hid cK
  have CP := Lib.hid cP
  have hmt := mt_size_code b
  have hs1 : ¬ r < s := by omega
  clear cM cS cR cK cP
  go_enter Tryz.func101, Tryz.ntmps101
  go_wp2
  go_quiet (first | (go_at_call 35; exact Calls.quiet_of (CM.out _ (((Old.refl _).alloc (Nat.le_refl _) _).drewN _))) | (go_at_call 336; exact Calls.quiet_of (CS.out _ (((Old.refl _).alloc (Nat.le_refl _) _).drewN _))) | (go_at_call 145; exact Calls.quiet_of (CR.out _ (((Old.refl _).alloc (Nat.le_refl _) _).drewN _))))
  go_wp2
  go_region_with (go_at_call 336; refine (CS.out _ ?_).mono ?_; exact ((((Old.refl _).alloc (Nat.le_refl _) _).drewN _)); rintro e w' ⟨rfl, d, rfl⟩)
  all_goals
    go_wp2_with (go_at_call 115; ((with_reducible refine (CK.out _).mono ?_); rintro e w' ⟨rfl, rfl⟩))
    refine (CP.out _).mono ?_
    rintro e w3 ⟨rfl, h3, hP⟩
    have d0 : w3.cell? ⟨w.heap.size, 0, none⟩ = some (.int .i64 0) := cell_at h3
    have d1 : w3.cell? ⟨w.heap.size, 1, none⟩ = some (.int .i64 0) := cell_at h3
    have e0 : w3.frozen? ⟨w.heap.size, 0, none⟩ = false := frozen_at h3
    have e1 : w3.frozen? ⟨w.heap.size, 1, none⟩ = false := frozen_at h3
    have HP := Lib.hid hP
    have H3 := Lib.hid h3
    clear hP h3
    go_wp2
    exact bodyPost_ret (v := .tuple #[wv (kd, i), .int .i64 0]) (by simp [results, Tryz.results101, go_sem, d0, d1]) rfl ⟨rfl, w3, HP.out, H3.out, rfl⟩
end Go.Proofs.YtbbopdkbokbafaaGreatDoor

/- What add does on a heap none of whose numbers below the length is free, and where there is no room. -/
namespace Go.Proofs.YtbbopdkbokbafaaGreatDoor
open Go.RowKit Go.Lib
theorem nodup_len : ∀ (n : Nat) (l : List Nat), l.Nodup → (∀ x ∈ l, x < n) → l.length ≤ n := by
  intro n
  induction n with
  | zero => intro l _ h; cases l with
    | nil => simp
    | cons x l => exact absurd (h x (by simp)) (by omega)
  | succ n ih =>
    intro l hn h
    by_cases hm : n ∈ l
    · have h1 := ih (l.erase n) (hn.erase n) (fun x hx => by
        have h2 := (List.Nodup.mem_erase_iff hn).1 hx
        have := h x h2.2
        omega)
      rw [List.length_erase_of_mem hm] at h1
      omega
    · have := ih l hn (fun x hx => by
        have := h x hx
        by_cases e : x = n
        · subst e; exact absurd hx hm
        · omega)
      omega
theorem Hp.Ok.free_len {m : Hp} (h : m.Ok) : m.free.length ≤ m.obs.length := by
  have h1 := nodup_len m.obs.length (m.free.map Int.toNat) ?_ ?_
  · simpa using h1
  · refine (List.pairwise_map.2 ?_)
    refine List.Pairwise.imp_of_mem ?_ h.once
    intro a b ha hb hab e
    obtain ⟨n, rfl, _⟩ := (h.free a).1 ha
    obtain ⟨k, rfl, _⟩ := (h.free b).1 hb
    simp at e
    exact hab (by rw [e])
  · intro x hx
    obtain ⟨i, hi, rfl⟩ := List.mem_map.1 hx
    obtain ⟨n, rfl, hn⟩ := (h.free i).1 hi
    simpa using (List.getElem?_eq_some_iff.1 hn).1
theorem HeapAt.many {w : World} {hb : Nat} {G : Nat → Nat} {m : Hp} (h : HeapAt w hb G m) : Reads w 35 #[hptr hb] (.int .i64 ((m.obs.length : Int) - m.free.length)) := by
  obtain ⟨ok, new, lab, vo, vf, xs, h1, h2, h3, h4⟩ := h
  obtain ⟨ao, co, rfl⟩ := h2.slice
  obtain ⟨af, cf, rfl⟩ := h3.slice
  intro W hW
  exact many_any hb m.lim (total m.obs) ao af _ _ co cf _ W (by have := ok.lim1; omega) ((hW hb (lt_at h1)).trans h1) (by have := ok.len; have := ok.lim2; omega) ok.free_len
theorem HeapAt.room {w : World} {hb : Nat} {G : Nat → Nat} {m : Hp} (h : HeapAt w hb G m) : Reads w 145 #[hptr hb] (.int .i64 (1048576 - (total m.obs : Nat))) := by
  obtain ⟨ok, new, lab, vo, vf, xs, h1, h2, h3, h4⟩ := h
  refine Reads.of_same fun W hW => ?_
  exact room_any hb m.lim (total m.obs) vo vf _ W (by have := ok.lim1; omega) ((hW hb (lt_at h1)).trans h1) (by omega) (by have := ok.store; omega)
theorem total_append (l r : List (Option Ob)) : total (l ++ r) = total l + total r := by simp [total]
theorem add_full_any {w : World} {hb : Nat} {G : Nat → Nat} {m : Hp} (h : HeapAt w hb G m) (x : Value) (hf : m.obs.length - m.free.length = m.lim) :
    Calls Tryz.prog 101 #[hptr hb, x] w fun e w' => e = .returned (.tuple #[wv (0, 0), .int .i64 7]) ∧ Below w.heap.size w w' := by
  have hM := h.many
  have hfl := h.ok.free_len
  obtain ⟨ok, new, lab, vo, vf, xs, h1, h2, h3, h4⟩ := h
  rw [show (m.obs.length : Int) - m.free.length = m.lim by omega] at hM
  exact add_full hb m.lim x w (lt_at h1) (cell_at h1) hM
theorem ObAt.size_le {w : World} {G : Nat → Nat} {L : Nat} {x : Value} {o : Ob} (h : ObAt w G L x o) (hs : o.size ≤ 1048576) :
    ∃ b, G b = L ∧ b < w.heap.size ∧
      ((x = .iface 93 (.pointer (some ⟨b, 0, none⟩)) ∧ Reads w 324 #[.pointer (some ⟨b, 0, none⟩)] (.int .i64 o.size)) ∨
       (x = .iface 140 (.pointer (some ⟨b, 0, none⟩)) ∧ Reads w 329 #[.pointer (some ⟨b, 0, none⟩)] (.int .i64 o.size)) ∨
       (x = .iface 206 (.pointer (some ⟨b, 0, none⟩)) ∧ Reads w 334 #[.pointer (some ⟨b, 0, none⟩)] (.int .i64 o.size)) ∨
       (x = .iface 215 (.pointer (some ⟨b, 0, none⟩)) ∧ Reads w 336 #[.pointer (some ⟨b, 0, none⟩)] (.int .i64 o.size))) := by
  cases o with
  | pair a d => obtain ⟨b, rfl, h2, h3⟩ := h; exact ⟨b, h2, lt_at h3, .inl ⟨rfl, Reads.of_same fun W _ => size_pair b W⟩⟩
  | text s n => obtain ⟨b, rfl, h2, h3⟩ := h; exact ⟨b, h2, lt_at h3, .inr (.inl ⟨rfl, Reads.of_same fun W hW => size_text b n W (cell_at ((hW b (lt_at h3)).trans h3))⟩)⟩
  | vec l =>
    obtain ⟨b, sv, rfl, h2, h3, h4⟩ := h
    obtain ⟨a, c, rfl⟩ := h4.slice
    exact ⟨b, h2, lt_at h3, .inr (.inr (.inl ⟨rfl, Reads.of_same fun W hW => size_vec b l.length c a W (cell_at ((hW b (lt_at h3)).trans h3))⟩))⟩
  | code le mo de bs cs =>
    obtain ⟨b, sv, cv, rfl, h2, h3, h4, h5⟩ := h
    obtain ⟨a, c, rfl⟩ := h4.slice
    obtain ⟨a', c', rfl⟩ := h5.slice
    simp only [Ob.size] at hs
    refine ⟨b, h2, lt_at h3, .inr (.inr (.inr ⟨rfl, fun W hW => ?_⟩))⟩
    have h6 := (hW b (lt_at h3)).trans h3
    exact size_code b bs.length c cs.length c' a a' W (cell_at h6) (cell_at h6) (by omega) (by omega)
theorem add_big_any {w : World} {hb : Nat} {G Gx : Nat → Nat} {m : Hp} (h : HeapAt w hb G m) {x : Value} {o : Ob} (hx : ObAt w Gx 1 x o) (hf : m.obs.length - m.free.length ≠ m.lim) (hs : o.size ≤ 1048576) (hbig : 1048576 < total m.obs + o.size) :
    Calls Tryz.prog 101 #[hptr hb, x] w fun e w' => e = .returned (.tuple #[wv (0, 0), .int .i64 7]) ∧ Below w.heap.size w w' := by
  have hM := h.many
  have hR := h.room
  have hfl := h.ok.free_len
  have hst := h.ok.store
  obtain ⟨ok, new, lab, vo, vf, xs, h1, h2, h3, h4⟩ := h
  have hm : (((m.obs.length : Int) - m.free.length) == (m.lim : Int)) = false := by rw [beq_eq_false_iff_ne]; omega
  obtain ⟨b, _, hbs, h5 | h5 | h5 | h5⟩ := hx.size_le hs <;> obtain ⟨rfl, h6⟩ := h5
  · exact add_big_pair hb b m.lim _ _ _ w (lt_at h1) (cell_at h1) hm (by omega) hM h6 hR
  · exact add_big_text hb b m.lim _ _ _ w (lt_at h1) (cell_at h1) hm (by omega) hM h6 hR
  · exact add_big_vec hb b m.lim _ _ _ w (lt_at h1) (cell_at h1) hm (by omega) hM h6 hR
  · exact add_big_code hb b m.lim _ _ _ w (lt_at h1) (cell_at h1) hm (by omega) hM h6 hR
end Go.Proofs.YtbbopdkbokbafaaGreatDoor

/- add on a heap none of whose numbers below the length is free: the object gets the length as its number. -/
namespace Go.Proofs.YtbbopdkbokbafaaGreatDoor
open Go.RowKit Go.Lib
def Hp.addNew (m : Hp) (o : Ob) : Hp := { m with obs := m.obs ++ [some o] }
theorem Hp.Ok.addNew {m : Hp} {o : Ob} (h : m.Ok) (hf : m.free = []) (hl : m.obs.length < m.lim) (hs : total m.obs + o.size ≤ 1048576) : (m.addNew o).Ok := by
  refine ⟨h.lim1, h.lim2, by simp [Hp.addNew]; omega, by simp only [Hp.addNew, total_append]; simp [total, osize] at hs ⊢; omega, fun i => ?_, h.once⟩
  have h1 := h.free i
  rw [hf] at h1
  simp only [Hp.addNew, hf]
  refine ⟨fun h2 => by simp at h2, fun ⟨n, e, h2⟩ => h1.2 ⟨n, e, ?_⟩⟩
  by_cases hn : n < m.obs.length
  · rwa [List.getElem?_append_left hn] at h2
  · rw [List.getElem?_append_right (by omega)] at h2
    by_cases h3 : n - m.obs.length = 0
    · rw [h3] at h2; simp at h2
    · rw [List.getElem?_eq_none (by simp; omega)] at h2; cases h2
theorem alloc_at (w : World) (o : Obj) : (w.alloc o).heap[w.heap.size]? = some o := heap_alloc_new w o
/-- What place leaves, with what add does ahead of it. -/
structure Placed (w w3 : World) (hb : Nat) (G : Nat → Nat) (lim st : Int) (vf : Value) (n : Nat) (xs : List Value) : Prop where
  os : w3.os = w.os
  tape : w3.tape = w.tape
  output : w3.output = w.output
  size : w.heap.size < w3.heap.size
  block : ∀ k, k < w.heap.size → G k ≠ 1 → G k ≠ 2 → w3.heap[k]? = w.heap[k]?
  lies : ∃ vo', w3.heap[hb]? = some (.cells #[.int .i64 lim, vo', vf, .int .i64 st] 135 (0, 0)) ∧ Row w3 (fun k => if k < w.heap.size + 1 then G k else 2) 2 96 1 vo' n xs
theorem place_in_add {hb n cf : Nat} {lim st : Int} {vo : Value} {af : Option Addr} {xs : List Value} {G : Nat → Nat} {w : World} {st0 : Int} (T : TypeId) (p : Value)
    (hh : w.heap[hb]? = some (.cells #[.int .i64 lim, vo, .slice af 0 cf, .int .i64 st0] 135 (0, 0))) (hr : Row w G 2 96 1 vo n xs) (hG : G hb = 1) (hn : n < 65536) (hnew : G w.heap.size = 0) (d : Nat) :
    Calls Tryz.prog 146 #[hptr hb, .iface T p] (((w.alloc (.cells #[.int .i64 0, .int .i64 0] 28)).drewN d).setCell ⟨hb, 3, none⟩ (.int .i64 st))
      fun e w' => e = .returned (.int .i64 n) ∧ w'.heap[w.heap.size]? = some (.cells #[.int .i64 0, .int .i64 0] 28 (0, 0)) ∧ Placed w w' hb G lim st (.slice af 0 cf) (n + 1) (xs ++ [.iface T p]) := by
  have hbl := lt_at hh
  have hh2 : ((((w.alloc (.cells #[.int .i64 0, .int .i64 0] 28)).drewN d).setCell ⟨hb, 3, none⟩ (.int .i64 st))).heap[hb]? = some (.cells #[.int .i64 lim, vo, .slice af 0 cf, .int .i64 st] 135 (0, 0)) :=
    setCell_at (w := (w.alloc (.cells #[.int .i64 0, .int .i64 0] 28)).drewN d) ((Below.heap_alloc w _ hb hbl).trans hh) _
  have ho : ∀ k, k < w.heap.size → k ≠ hb → ((((w.alloc (.cells #[.int .i64 0, .int .i64 0] 28)).drewN d).setCell ⟨hb, 3, none⟩ (.int .i64 st))).heap[k]? = w.heap[k]? := fun k hk hne =>
    (setCell_off (w := (w.alloc (.cells #[.int .i64 0, .int .i64 0] 28)).drewN d) _ hne).trans (Below.heap_alloc w _ k hk)
  have hz : ((((w.alloc (.cells #[.int .i64 0, .int .i64 0] 28)).drewN d).setCell ⟨hb, 3, none⟩ (.int .i64 st))).heap.size = w.heap.size + 1 := by simp [World.setCell]
  have hat : ((((w.alloc (.cells #[.int .i64 0, .int .i64 0] 28)).drewN d).setCell ⟨hb, 3, none⟩ (.int .i64 st))).heap[w.heap.size]? = some (.cells #[.int .i64 0, .int .i64 0] 28 (0, 0)) :=
    (setCell_off (w := (w.alloc (.cells #[.int .i64 0, .int .i64 0] 28)).drewN d) _ (by show w.heap.size ≠ hb; omega)).trans (alloc_at w _)
  have hr2 : Row ((((w.alloc (.cells #[.int .i64 0, .int .i64 0] 28)).drewN d).setCell ⟨hb, 3, none⟩ (.int .i64 st))) G 2 96 1 vo n xs := hr.keep (fun k hk e => ho k hk (by intro e2; subst e2; omega)) (fun _ _ e => e)
  have ha : (((w.alloc (.cells #[.int .i64 0, .int .i64 0] 28)).drewN d).setCell ⟨hb, 3, none⟩ (.int .i64 st)).os = w.os ∧ (((w.alloc (.cells #[.int .i64 0, .int .i64 0] 28)).drewN d).setCell ⟨hb, 3, none⟩ (.int .i64 st)).tape = w.tape ∧ (((w.alloc (.cells #[.int .i64 0, .int .i64 0] 28)).drewN d).setCell ⟨hb, 3, none⟩ (.int .i64 st)).output = w.output := ⟨rfl, rfl, rfl⟩
  generalize (((w.alloc (.cells #[.int .i64 0, .int .i64 0] 28)).drewN d).setCell ⟨hb, 3, none⟩ (.int .i64 st)) = W at hh2 ho hz hat hr2 ha ⊢
  refine (place_new hb n cf lim st vo _ af xs G T p W hh2 hr2 hG hn rfl).mono ?_
  rintro e w' ⟨he, vo', k1, k2, k3, k4, k5, k6, k7⟩
  rw [hz] at k2 k6 k7
  refine ⟨he, (k7 _ (by omega) (by omega) (by omega)).trans hat, k3.trans ha.1, k4.trans ha.2.1, k5.trans ha.2.2, by omega, fun k hk n1 n2 => (k7 k (by omega) n1 n2).trans (ho k hk (by intro e2; subst e2; exact n1 hG)), vo', k1, k2⟩
theorem add_new {w : World} {hb : Nat} {G Gx : Nat → Nat} {m : Hp} (h : HeapAt w hb G m) (hf : m.free = []) {x : Value} {o : Ob} (hx : ObAt w Gx 1 x o) (hd : ∀ k, k < w.heap.size → Gx k = 1 → G k = 0)
    (hl : m.obs.length < m.lim) (hs : total m.obs + o.size ≤ 1048576) :
    Calls Tryz.prog 101 #[hptr hb, x] w fun e w' => e = .returned (.tuple #[wv (o.kind, m.obs.length), .int .i64 0]) ∧
      Keeps G w w' ∧ ∃ G', HeapAt w' hb G' (m.addNew o) ∧ ∀ k, k < w.heap.size → (G' k = 0 ↔ G k = 0 ∧ Gx k ≠ 1) := by
  have hM := h.many
  have hR := h.room
  have hst := h.ok.store
  have hok2 := h.ok.addNew hf hl hs
  have hsz : o.size ≤ 1048576 := by omega
  obtain ⟨ok, new, lab, vo, vf, xs, h1, h2, h3, h4⟩ := h
  have hlim := ok.lim2
  rw [hf] at hM h3
  obtain ⟨af, cf, rfl⟩ := h3.slice
  have hm : (((m.obs.length : Int) - ([] : List Int).length) == (m.lim : Int)) = false := by rw [beq_eq_false_iff_ne]; simp; omega
  have hcP : ∀ T p, ∀ d, Calls Tryz.prog 146 #[hptr hb, .iface T p] (((w.alloc (.cells #[.int .i64 0, .int .i64 0] 28)).drewN d).setCell ⟨hb, 3, none⟩ (.int .i64 ((total m.obs : Int) + o.size))) _ :=
    fun T p d => place_in_add (st := (total m.obs : Int) + o.size) T p h1 h2 lab (by omega) (new _ (Nat.le_refl _)) d
  have hfin : ∀ w' w3 : World, Placed w w3 hb G m.lim ((total m.obs : Int) + o.size) (.slice af 0 cf) (m.obs.length + 1) (xs ++ [x]) → w3.heap[w.heap.size]? = some (.cells #[.int .i64 0, .int .i64 0] 28 (0, 0)) →
      w' = (w3.setCell ⟨w.heap.size, 0, none⟩ (.int .i64 o.kind)).setCell ⟨w.heap.size, 1, none⟩ (.int .i64 m.obs.length) →
      Keeps G w w' ∧ ∃ G', HeapAt w' hb G' (m.addNew o) ∧ ∀ k, k < w.heap.size → (G' k = 0 ↔ G k = 0 ∧ Gx k ≠ 1) := by
    intro w' w3 hp hw3 hw'
    have hz : w'.heap.size = w3.heap.size := by rw [hw']; simp [World.setCell]
    have hof : ∀ k, k ≠ w.heap.size → w'.heap[k]? = w3.heap[k]? := fun k hk => by rw [hw', setCell_off _ hk, setCell_off _ hk]
    have hos : w'.os = w3.os ∧ w'.tape = w3.tape ∧ w'.output = w3.output := by rw [hw']; exact ⟨rfl, rfl, rfl⟩
    clear hw'
    obtain ⟨p1, p2, p3, p4, p5, vo', p6, p7⟩ := hp
    have hold : ∀ k, k < w.heap.size → G k ≠ 1 → G k ≠ 2 → w'.heap[k]? = w.heap[k]? := fun k hk n1 n2 => (hof k (by omega)).trans (p5 k hk n1 n2)
    have hnw := new _ (Nat.le_refl _)
    refine ⟨⟨hos.1.trans p1, hos.2.1.trans p2, hos.2.2.trans p3, by omega, fun k hk hz => hold k hk (by omega) (by omega)⟩,
      fun k => if k < w.heap.size then (if Gx k = 1 then 4 + m.obs.length else G k) else if k = w.heap.size ∨ w'.heap.size ≤ k then 0 else 2, ⟨hok2, fun k hk => ?_, ?_, vo', .slice af 0 cf, xs ++ [x], ?_, ?_, ?_, fun i o' ho => ?_⟩, fun k hk => ?_⟩
    · simp only [if_neg (show ¬ k < w.heap.size by omega), if_pos (Or.inr hk)]
    · have hbl := lt_at h1
      simp only [if_pos hbl]
      rw [if_neg (fun e => by have := hd hb hbl e; omega)]
      exact lab
    · rw [hof hb (by have := lt_at h1; omega), p6]
      simp only [Hp.addNew, total_append]
      simp [total, osize]
    · refine Row.keep (G' := _) (L := 2) (n := (m.addNew o).obs.length) ?_ (w := w3) (G := fun k => if k < w.heap.size + 1 then G k else 2) (fun k hk e => hof k ?_) (fun k hk e => ?_)
      · have : (m.addNew o).obs.length = m.obs.length + 1 := by simp [Hp.addNew]
        rw [this]; exact p7
      · intro e2; subst e2
        simp only [if_pos (show w.heap.size < w.heap.size + 1 by omega)] at e
        omega
      · by_cases hk2 : k < w.heap.size
        · simp only [if_pos (show k < w.heap.size + 1 by omega)] at e
          simp only [if_pos hk2]
          rw [if_neg (fun e2 => by have := hd k hk2 e2; omega)]
          exact e
        · by_cases hk3 : k = w.heap.size
          · subst hk3
            simp only [if_pos (show w.heap.size < w.heap.size + 1 by omega)] at e
            omega
          · simp only [if_neg hk2, if_neg (show ¬ (k = w.heap.size ∨ w'.heap.size ≤ k) by omega)]
    · simp only [Hp.addNew, hf]
      refine h3.keep (fun k hk e => hold k hk (by omega) (by omega)) (fun k hk e => ?_)
      simp only [if_pos hk]
      rw [if_neg (fun e2 => by have := hd k hk e2; omega)]
      exact e
    · have hxl : xs.length = m.obs.length := by simpa using h2.length
      simp only [Hp.addNew] at ho
      by_cases hi : i < m.obs.length
      · rw [List.getElem?_append_left hi] at ho
        obtain ⟨v, hv1, hv2⟩ := h4 i o' ho
        refine ⟨v, by rw [List.getElem?_append_left (by omega)]; exact hv1, hv2.keep (by omega) (fun k hk e => hold k hk (by omega) (by omega)) (fun k hk e => ?_)⟩
        simp only [if_pos hk]
        rw [if_neg (fun e2 => by have := hd k hk e2; omega)]
        exact e
      · have hi2 : i = m.obs.length := by
          have := (List.getElem?_eq_some_iff.1 ho).1
          simp at this
          omega
        subst hi2
        simp at ho
        subst ho
        refine ⟨x, by rw [← hxl]; simp, ?_⟩
        show ObAt w' _ (4 + m.obs.length) x o
        refine hx.move (by omega) (fun k hk e => hold k hk (by have := hd k hk e; omega) (by have := hd k hk e; omega)) (fun k hk e => ?_)
        simp only [if_pos hk]
        rw [if_pos e]
    · simp only [if_pos hk]
      by_cases e : Gx k = 1
      · rw [if_pos e]; exact ⟨fun h => by omega, fun h => absurd e h.2⟩
      · rw [if_neg e]; exact ⟨fun h => ⟨h, e⟩, fun h => h.1⟩
  have f3 : w.frozen? ⟨hb, 3, none⟩ = false := frozen_at h1
  have hx2 := hx
  obtain ⟨b, _, hbs, h5 | h5 | h5 | h5⟩ := hx.size_le hsz <;> obtain ⟨rfl, h6⟩ := h5
  · refine (add_walk_pair hb b m.lim _ (total m.obs) o.size _ o.kind m.obs.length w _ (lt_at h1) (cell_at h1) (cell_at h1) f3 hm (by omega) (by omega) (by omega) (by omega) hM h6 hR (kind_v hx2) (hcP _ _)).mono ?_
    rintro e w' ⟨he, w3, hp, hw3, hw'⟩
    exact ⟨he, hfin w' w3 hp hw3 hw'⟩
  · refine (add_walk_text hb b m.lim _ (total m.obs) o.size _ o.kind m.obs.length w _ (lt_at h1) (cell_at h1) (cell_at h1) f3 hm (by omega) (by omega) (by omega) (by omega) hM h6 hR (kind_v hx2) (hcP _ _)).mono ?_
    rintro e w' ⟨he, w3, hp, hw3, hw'⟩
    exact ⟨he, hfin w' w3 hp hw3 hw'⟩
  · refine (add_walk_vec hb b m.lim _ (total m.obs) o.size _ o.kind m.obs.length w _ (lt_at h1) (cell_at h1) (cell_at h1) f3 hm (by omega) (by omega) (by omega) (by omega) hM h6 hR (kind_v hx2) (hcP _ _)).mono ?_
    rintro e w' ⟨he, w3, hp, hw3, hw'⟩
    exact ⟨he, hfin w' w3 hp hw3 hw'⟩
  · refine (add_walk_code hb b m.lim _ (total m.obs) o.size _ o.kind m.obs.length w _ (lt_at h1) (cell_at h1) (cell_at h1) f3 hm (by omega) (by omega) (by omega) (by omega) hM h6 hR (kind_v hx2) (hcP _ _)).mono ?_
    rintro e w' ⟨he, w3, hp, hw3, hw'⟩
    exact ⟨he, hfin w' w3 hp hw3 hw'⟩
end Go.Proofs.YtbbopdkbokbafaaGreatDoor

