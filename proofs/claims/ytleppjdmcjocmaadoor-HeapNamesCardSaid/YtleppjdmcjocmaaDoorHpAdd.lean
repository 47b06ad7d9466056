/- The contract of add: an object is stored under the smallest free number, where no number below the length is free; or there is no room. -/
import Derived.Test.YtleppjdmcjocmaaDoorHpPlace
import Derived.Deep.RegionWith
namespace Go.Proofs.YtleppjdmcjocmaaDoor
open Go.RowKit Go.Lib
/-- All blocks of w stand in W. -/
def Old (w W : World) : Prop := ∀ k, k < w.heap.size → W.heap[k]? = w.heap[k]?
theorem Old.refl (w : World) : Old w w := fun _ _ => rfl
theorem Old.alloc {w W : World} (h : Old w W) (hs : w.heap.size ≤ W.heap.size) (o : Obj) : Old w (W.alloc o) := fun k hk => (Below.heap_alloc _ _ _ (by omega)).trans (h k hk)
theorem Old.drewN {w W : World} (h : Old w W) (n : Nat) : Old w (W.drewN n) := h
theorem Old.drew {w W : World} (h : Old w W) : Old w W.drew := h
/-- A contract of a function that only reads, in any world in which the blocks of w stand. -/
abbrev Reads (w : World) (f : FuncId) (args : Array Value) (v : Value) : Prop := ∀ W, Old w W → Calls Tryd.prog f args W fun e w' => e = .returned v ∧ ∃ d, w' = W.drewN d
theorem Reads.of_same {w : World} {f : FuncId} {args : Array Value} {v : Value} (h : ∀ W, Old w W → Calls Tryd.prog f args W fun e w' => e = .returned v ∧ w' = W) : Reads w f args v := fun W hW => (h W hW).mono fun _ _ ⟨he, hw⟩ => ⟨he, 0, hw⟩
/-- What add leaves where it has stored: the heap's own block and its row of objects. -/
structure Added (w w' : World) (hb : Nat) (G : Nat → Nat) (lim st : Int) (vf : Value) (n : Nat) (xs : List Value) : Prop where
  os : w'.os = w.os
  tape : w'.tape = w.tape
  output : w'.output = w.output
  size : w.heap.size ≤ w'.heap.size
  block : ∀ k, k < w.heap.size → G k ≠ 1 → G k ≠ 2 → w'.heap[k]? = w.heap[k]?
  lies : ∃ vo', w'.heap[hb]? = some (.cells #[.int .i64 lim, vo', vf, .int .i64 st] 67 (0, 0)) ∧ Row w' (fun k => if k < w.heap.size then G k else 2) 2 80 1 vo' n xs
set_option maxHeartbeats 1000000 in
theorem add_full (hb : Nat) (lim : Int) (x : Value) (w : World) (hbl : hb < w.heap.size) (c0 : w.cell? ⟨hb, 0, none⟩ = some (.int .i64 lim)) (cM : Reads w 19 #[hptr hb] (.int .i64 lim)) :
    Calls Tryd.prog 37 #[hptr hb, x] w fun e w' => e = .returned (.tuple #[wv (0, 0), .int .i64 7]) ∧ Below w.heap.size w w' := by
  have CM := Lib.hid cM
  clear cM
  go_enter Tryd.func37, Tryd.ntmps37
  go_wp2
  go_quiet ((go_at_call 19; exact Calls.quiet_of (CM.out _ (((Old.refl _).alloc (Nat.le_refl _) _).drewN _))))
  go_wp2
  exact bodyPost_ret (v := .tuple #[wv (0, 0), .int .i64 7]) (by simp [results, Tryd.results37, go_sem]) rfl ⟨rfl, ((((Below.refl _ _).alloc (Nat.le_refl _) _).drewN _).setCell (Nat.le_refl _) _).setCell (Nat.le_refl _) _⟩
set_option maxHeartbeats 1000000 in
theorem add_big_pair (hb b : Nat) (lim m s r : Int) (w : World) (hbl : hb < w.heap.size) (c0 : w.cell? ⟨hb, 0, none⟩ = some (.int .i64 lim)) (hm : (m == lim) = false) (hs : r < s)
    (cM : Reads w 19 #[hptr hb] (.int .i64 m)) (cS : Reads w 85 #[.pointer (some ⟨b, 0, none⟩)] (.int .i64 s)) (cR : Reads w 20 #[hptr hb] (.int .i64 r)) :
    Calls Tryd.prog 37 #[hptr hb, .iface 69 (.pointer (some ⟨b, 0, none⟩))] w fun e w' => e = .returned (.tuple #[wv (0, 0), .int .i64 7]) ∧ Below w.heap.size w w' := by
  have CM := Lib.hid cM
  have CS := Lib.hid cS
  have CR := Lib.hid cR
  clear cM cS cR
  have hmt := mt_size_pair b
  go_enter Tryd.func37, Tryd.ntmps37
  go_wp2
  go_quiet (first | (go_at_call 19; exact Calls.quiet_of (CM.out _ (((Old.refl _).alloc (Nat.le_refl _) _).drewN _))) | (go_at_call 85; exact Calls.quiet_of (CS.out _ (((Old.refl _).alloc (Nat.le_refl _) _).drewN _))) | (go_at_call 20; exact Calls.quiet_of (CR.out _ (((Old.refl _).alloc (Nat.le_refl _) _).drewN _))))
  go_wp2
  exact bodyPost_ret (v := .tuple #[wv (0, 0), .int .i64 7]) (by simp [results, Tryd.results37, go_sem]) rfl ⟨rfl, ((((Below.refl _ _).alloc (Nat.le_refl _) _).drewN _).setCell (Nat.le_refl _) _).setCell (Nat.le_refl _) _⟩
set_option maxHeartbeats 1000000 in
theorem add_big_text (hb b : Nat) (lim m s r : Int) (w : World) (hbl : hb < w.heap.size) (c0 : w.cell? ⟨hb, 0, none⟩ = some (.int .i64 lim)) (hm : (m == lim) = false) (hs : r < s)
    (cM : Reads w 19 #[hptr hb] (.int .i64 m)) (cS : Reads w 87 #[.pointer (some ⟨b, 0, none⟩)] (.int .i64 s)) (cR : Reads w 20 #[hptr hb] (.int .i64 r)) :
    Calls Tryd.prog 37 #[hptr hb, .iface 74 (.pointer (some ⟨b, 0, none⟩))] w fun e w' => e = .returned (.tuple #[wv (0, 0), .int .i64 7]) ∧ Below w.heap.size w w' := by
  have CM := Lib.hid cM
  have CS := Lib.hid cS
  have CR := Lib.hid cR
  clear cM cS cR
  have hmt := mt_size_text b
  go_enter Tryd.func37, Tryd.ntmps37
  go_wp2
  go_quiet (first | (go_at_call 19; exact Calls.quiet_of (CM.out _ (((Old.refl _).alloc (Nat.le_refl _) _).drewN _))) | (go_at_call 87; exact Calls.quiet_of (CS.out _ (((Old.refl _).alloc (Nat.le_refl _) _).drewN _))) | (go_at_call 20; exact Calls.quiet_of (CR.out _ (((Old.refl _).alloc (Nat.le_refl _) _).drewN _))))
  go_wp2
  exact bodyPost_ret (v := .tuple #[wv (0, 0), .int .i64 7]) (by simp [results, Tryd.results37, go_sem]) rfl ⟨rfl, ((((Below.refl _ _).alloc (Nat.le_refl _) _).drewN _).setCell (Nat.le_refl _) _).setCell (Nat.le_refl _) _⟩
set_option maxHeartbeats 1000000 in
theorem add_big_vec (hb b : Nat) (lim m s r : Int) (w : World) (hbl : hb < w.heap.size) (c0 : w.cell? ⟨hb, 0, none⟩ = some (.int .i64 lim)) (hm : (m == lim) = false) (hs : r < s)
    (cM : Reads w 19 #[hptr hb] (.int .i64 m)) (cS : Reads w 89 #[.pointer (some ⟨b, 0, none⟩)] (.int .i64 s)) (cR : Reads w 20 #[hptr hb] (.int .i64 r)) :
    Calls Tryd.prog 37 #[hptr hb, .iface 82 (.pointer (some ⟨b, 0, none⟩))] w fun e w' => e = .returned (.tuple #[wv (0, 0), .int .i64 7]) ∧ Below w.heap.size w w' := by
  have CM := Lib.hid cM
  have CS := Lib.hid cS
  have CR := Lib.hid cR
  clear cM cS cR
  have hmt := mt_size_vector b
  go_enter Tryd.func37, Tryd.ntmps37
  go_wp2
  go_quiet (first | (go_at_call 19; exact Calls.quiet_of (CM.out _ (((Old.refl _).alloc (Nat.le_refl _) _).drewN _))) | (go_at_call 89; exact Calls.quiet_of (CS.out _ (((Old.refl _).alloc (Nat.le_refl _) _).drewN _))) | (go_at_call 20; exact Calls.quiet_of (CR.out _ (((Old.refl _).alloc (Nat.le_refl _) _).drewN _))))
  go_wp2
  exact bodyPost_ret (v := .tuple #[wv (0, 0), .int .i64 7]) (by simp [results, Tryd.results37, go_sem]) rfl ⟨rfl, ((((Below.refl _ _).alloc (Nat.le_refl _) _).drewN _).setCell (Nat.le_refl _) _).setCell (Nat.le_refl _) _⟩
set_option maxHeartbeats 1000000 in
theorem add_big_code (hb b : Nat) (lim m s r : Int) (w : World) (hbl : hb < w.heap.size) (c0 : w.cell? ⟨hb, 0, none⟩ = some (.int .i64 lim)) (hm : (m == lim) = false) (hs : r < s)
    (cM : Reads w 19 #[hptr hb] (.int .i64 m)) (cS : Reads w 91 #[.pointer (some ⟨b, 0, none⟩)] (.int .i64 s)) (cR : Reads w 20 #[hptr hb] (.int .i64 r)) :
    Calls Tryd.prog 37 #[hptr hb, .iface 94 (.pointer (some ⟨b, 0, none⟩))] w fun e w' => e = .returned (.tuple #[wv (0, 0), .int .i64 7]) ∧ Below w.heap.size w w' := by
  have CM := Lib.hid cM
  have CS := Lib.hid cS
  have CR := Lib.hid cR
  clear cM cS cR
  have hmt := mt_size_code b
  go_enter Tryd.func37, Tryd.ntmps37
  go_wp2
  go_quiet (first | (go_at_call 19; exact Calls.quiet_of (CM.out _ (((Old.refl _).alloc (Nat.le_refl _) _).drewN _))) | (go_at_call 91; exact Calls.quiet_of (CS.out _ (((Old.refl _).alloc (Nat.le_refl _) _).drewN _))) | (go_at_call 20; exact Calls.quiet_of (CR.out _ (((Old.refl _).alloc (Nat.le_refl _) _).drewN _))))
  go_wp2
  exact bodyPost_ret (v := .tuple #[wv (0, 0), .int .i64 7]) (by simp [results, Tryd.results37, go_sem]) rfl ⟨rfl, ((((Below.refl _ _).alloc (Nat.le_refl _) _).drewN _).setCell (Nat.le_refl _) _).setCell (Nat.le_refl _) _⟩
end Go.Proofs.YtleppjdmcjocmaaDoor
