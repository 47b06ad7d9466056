/- The contracts of the objects' clone: a new block (and new rows) with the same contents. -/
import Derived.Test.YtleppjdmcjocmaaDoorHpCodeOf
namespace Go.Proofs.YtleppjdmcjocmaaDoor
open Go.RowKit Go.Lib
set_option maxHeartbeats 1000000 in
theorem clone_pair (b : Nat) (a0 a1 d0 d1 : Int) (w : World) (q0 : w.cell? ⟨b, 0, none⟩ = some (.int .i64 a0)) (q1 : w.cell? ⟨b, 1, none⟩ = some (.int .i64 a1)) (q2 : w.cell? ⟨b, 2, none⟩ = some (.int .i64 d0)) (q3 : w.cell? ⟨b, 3, none⟩ = some (.int .i64 d1)) :
    Calls Tryd.prog 84 #[.pointer (some ⟨b, 0, none⟩)] w fun e w' => ∃ k, e = .returned (.iface 69 (.pointer (some ⟨k, 0, none⟩))) ∧ w.heap.size ≤ k ∧ w'.heap[k]? = some (.cells #[.int .i64 a0, .int .i64 a1, .int .i64 d0, .int .i64 d1] 71 (0, 0)) ∧ Below w.heap.size w w' := by
  go_enter Tryd.func84, Tryd.ntmps84
  go_wp2
  go_region
  go_wp2
  go_ret
  exact ⟨_, rfl, Nat.le_refl _, alloc_at w _, ((Below.refl _ _).alloc (Nat.le_refl _) _).drew⟩
set_option maxHeartbeats 1000000 in
theorem clone_text (b : Nat) (s : ByteArray) (n : Int) (w : World) (q0 : w.cell? ⟨b, 0, none⟩ = some (.string s)) (q1 : w.cell? ⟨b, 1, none⟩ = some (.int .i64 n)) :
    Calls Tryd.prog 86 #[.pointer (some ⟨b, 0, none⟩)] w fun e w' => ∃ k, e = .returned (.iface 74 (.pointer (some ⟨k, 0, none⟩))) ∧ w.heap.size ≤ k ∧ w'.heap[k]? = some (.cells #[.string s, .int .i64 n] 77 (0, 0)) ∧ Below w.heap.size w w' := by
  go_enter Tryd.func86, Tryd.ntmps86
  go_wp2
  go_region
  go_wp2
  go_ret
  exact ⟨_, rfl, Nat.le_refl _, alloc_at w _, ((Below.refl _ _).alloc (Nat.le_refl _) _).drew⟩
set_option maxHeartbeats 1000000 in
theorem clone_vec (b n c : Nat) (a : Option Addr) (xs : List Value) (w : World) (q0 : w.cell? ⟨b, 0, none⟩ = some (.slice a n c))
    (cC : ∀ W, Below w.heap.size w W → Calls Tryd.prog 44 #[.slice a n c] W fun e w' => ∃ v', e = .returned v' ∧ w'.ownsRow W.heap.size 28 2 v' n xs ∧ Below W.heap.size W w') :
    Calls Tryd.prog 88 #[.pointer (some ⟨b, 0, none⟩)] w fun e w' => ∃ k sv W, e = .returned (.iface 82 (.pointer (some ⟨k, 0, none⟩))) ∧ w.heap.size ≤ k ∧ k = W.heap.size ∧ W.ownsRow w.heap.size 28 2 sv n xs ∧ Below w.heap.size w W ∧ w' = W.alloc (.cells #[sv] 84) := by
  have CC := Lib.hid cC
  clear cC
  go_enter Tryd.func88, Tryd.ntmps88
  go_wp2_with fail
  refine (CC.out _ (Below.refl _ _)).mono ?_
  rintro e W ⟨sv, rfl, ho, hb1⟩
  obtain ⟨a1, c1, rfl⟩ := own_slice ho
  have HO := Lib.hid (And.intro ho hb1)
  clear ho hb1 CC q0
  go_wp2
  try go_region
  go_wp2
  go_ret
  exact ⟨_, _, W, rfl, HO.out.2.size, rfl, HO.out.1, HO.out.2, rfl⟩
set_option maxHeartbeats 1000000 in
theorem clone_code (b nb nc cb cc : Nat) (le mo de : Int) (ab ac : Option Addr) (bs cs : List Value) (w : World)
    (q0 : w.cell? ⟨b, 0, none⟩ = some (.int .i64 le)) (q1 : w.cell? ⟨b, 1, none⟩ = some (.int .i64 mo)) (q2 : w.cell? ⟨b, 2, none⟩ = some (.int .i64 de)) (q3 : w.cell? ⟨b, 3, none⟩ = some (.slice ab nb cb)) (q4 : w.cell? ⟨b, 4, none⟩ = some (.slice ac nc cc))
    (cC : ∀ W, Below w.heap.size w W → Calls Tryd.prog 49 #[.agg #[.int .i64 le, .int .i64 mo, .int .i64 de, .slice ab nb cb, .slice ac nc cc]] W fun e w' => ∃ vb vc, e = .returned (.agg #[.int .i64 le, .int .i64 mo, .int .i64 de, vb, vc]) ∧
      w'.ownsRow W.heap.size 5 1 vb nb bs ∧ w'.ownsRow W.heap.size 28 2 vc nc cs ∧ Below W.heap.size W w') :
    Calls Tryd.prog 90 #[.pointer (some ⟨b, 0, none⟩)] w fun e w' => ∃ k vb vc W, e = .returned (.iface 94 (.pointer (some ⟨k, 0, none⟩))) ∧ w.heap.size ≤ k ∧ k = W.heap.size ∧
      W.ownsRow w.heap.size 5 1 vb nb bs ∧ W.ownsRow w.heap.size 28 2 vc nc cs ∧ Below w.heap.size w W ∧ w' = W.alloc (.cells #[.int .i64 le, .int .i64 mo, .int .i64 de, vb, vc] 97) := by
  have CC := Lib.hid cC
  clear cC
  go_enter Tryd.func90, Tryd.ntmps90
  go_wp2_with fail
  refine (CC.out _ (Below.refl _ _)).mono ?_
  rintro e W ⟨vb, vc, rfl, ho, ho2, hb1⟩
  obtain ⟨a1, c1, rfl⟩ := own_slice ho
  obtain ⟨a2, c2, rfl⟩ := own_slice ho2
  have HO := Lib.hid (And.intro ho (And.intro ho2 hb1))
  clear ho ho2 hb1 CC q0 q1 q2 q3 q4
  go_wp2
  try go_region
  go_wp2
  go_ret
  exact ⟨_, _, _, W, rfl, HO.out.2.2.size, rfl, HO.out.1, HO.out.2.1, HO.out.2.2, rfl⟩
end Go.Proofs.YtleppjdmcjocmaaDoor
