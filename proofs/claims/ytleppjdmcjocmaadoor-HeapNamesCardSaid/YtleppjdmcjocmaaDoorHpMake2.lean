/- The walks of Code and New; what the four makers leave of a heap. -/
import Derived.Test.YtleppjdmcjocmaaDoorHpMake
namespace Go.Proofs.YtleppjdmcjocmaaDoor
open Go.RowKit Go.Lib
set_option maxHeartbeats 1000000 in
theorem code_walk (hb : Nat) (er le mo de : Int) (r : Wd) (ab ac : Option Addr) (nb nc cb cc : Nat) (bs cs : List Value) (P : World → Prop) (w : World) (hn : nb ≤ 65536) (hn2 : nc ≤ 65536) (cV : ValidIn w hb)
    (cC : ∀ W, Below w.heap.size w W → Calls Tryd.prog 49 #[.agg #[.int .i64 le, .int .i64 mo, .int .i64 de, .slice ab nb cb, .slice ac nc cc]] W fun e w' => ∃ vb vc, e = .returned (.agg #[.int .i64 le, .int .i64 mo, .int .i64 de, vb, vc]) ∧
      w'.ownsRow W.heap.size 5 1 vb nb bs ∧ w'.ownsRow W.heap.size 28 2 vc nc cs ∧ Below W.heap.size W w')
    (cA : ∀ W a c a' c', Below w.heap.size w W → W.heap[w.heap.size + 1]? = some (.cells #[.int .i64 0, .int .i64 0] 28 (0, 0)) → W.ownsRow (w.heap.size + 2) 5 1 (.slice a nb c) nb bs → W.ownsRow (w.heap.size + 2) 28 2 (.slice a' nc c') nc cs → w.heap.size + 2 ≤ W.heap.size →
      Calls Tryd.prog 37 #[hptr hb, .iface 94 (.pointer (some ⟨W.heap.size, 0, none⟩))] (W.alloc (.cells #[.int .i64 le, .int .i64 mo, .int .i64 de, .slice a nb c, .slice a' nc c'] 97))
      fun e w' => e = .returned (.tuple #[wv r, .int .i64 er]) ∧ w'.heap[w.heap.size + 1]? = some (.cells #[.int .i64 0, .int .i64 0] 28 (0, 0)) ∧ P w') :
    Calls Tryd.prog 30 #[hptr hb, .agg #[.int .i64 le, .int .i64 mo, .int .i64 de, .slice ab nb cb, .slice ac nc cc]] w fun e w' => e = .returned (.tuple #[wv r, .int .i64 er]) ∧
      ∃ w3, P w3 ∧ w' = (w3.setCell ⟨w.heap.size + 1, 0, none⟩ (.int .i64 r.1)).setCell ⟨w.heap.size + 1, 1, none⟩ (.int .i64 r.2) := by
  have CV := Lib.hid cV
  have CA := Lib.hid cA
  have CC := Lib.hid cC
  have hn1 : decide ((65536 : Int) < nb) = false := by simp; omega
  have hn3 : ¬ (65536 : Int) < nc := by omega
  clear cV cA cC hn hn2
  go_enter Tryd.func30, Tryd.ntmps30
  go_wp2_with (go_at_call 36; refine (CV.out _ ?_).mono ?_; exact ((Old.refl _).alloc (Nat.le_refl _) _).alloc (by simp) _; rintro e w' ⟨rfl, rfl⟩)
  refine (CC.out _ (((Below.refl _ _).alloc (Nat.le_refl _) _).alloc (by simp) _)).mono ?_
  rintro e W ⟨vb, vc, rfl, ho, ho2, hb1⟩
  obtain ⟨a, c, rfl⟩ := own_slice ho
  obtain ⟨a', c', rfl⟩ := own_slice ho2
  have k0 : W.heap[w.heap.size + 1]? = some (.cells #[.int .i64 0, .int .i64 0] 28 (0, 0)) := (hb1.block _ (by simp)).trans (by
    have := alloc_at (w.alloc (.cells #[.int .i64 le, .int .i64 mo, .int .i64 de, .slice ab nb cb, .slice ac nc cc] 52)) (.cells #[.int .i64 0, .int .i64 0] 28)
    rw [show (w.alloc (.cells #[.int .i64 le, .int .i64 mo, .int .i64 de, .slice ab nb cb, .slice ac nc cc] 52)).heap.size = w.heap.size + 1 from by simp] at this
    exact this)
  have hz : w.heap.size + 2 ≤ W.heap.size := Nat.le_trans (by simp) hb1.size
  have hcA := CA.out W a c a' c' ((((Below.refl _ _).alloc (Nat.le_refl _) _).alloc (by simp) _).trans (hb1.mono (by simp; omega))) k0 (own_base ho (by simp)) (own_base ho2 (by simp)) hz
  clear ho ho2 hb1 k0 hz CA CC CV
  have CA := Lib.hid hcA
  clear hcA
  go_wp2_with fail
  refine CA.out.mono ?_
  rintro e w3 ⟨rfl, h3, hP⟩
  have d0 : w3.cell? ⟨w.heap.size + 1, 0, none⟩ = some (.int .i64 0) := cell_at h3
  have d1 : w3.cell? ⟨w.heap.size + 1, 1, none⟩ = some (.int .i64 0) := cell_at h3
  have e0 : w3.frozen? ⟨w.heap.size + 1, 0, none⟩ = false := frozen_at h3
  have e1 : w3.frozen? ⟨w.heap.size + 1, 1, none⟩ = false := frozen_at h3
  have HP := Lib.hid hP
  clear hP h3 CA
  go_wp2
  refine bodyPost_ret (v := .tuple #[wv r, .int .i64 er]) ?_ rfl ⟨rfl, w3, HP.out, rfl⟩
  simp [results, Tryd.results30, go_sem, d0, d1]
theorem new_walk (n : Int) (w : World) (h1 : 1 ≤ n) (h2 : n ≤ 65536) : Calls Tryd.prog 10 #[.int .i64 n] w fun e w' => e = .returned (.tuple #[hptr w.heap.size, .int .i64 0]) ∧
    w' = w.alloc (.cells #[.int .i64 n, .slice none 0 0, .slice none 0 0, .int .i64 0] 67) := by
  have hd : decide (n < 1) = false := by simp; omega
  have hd2 : ¬ 65536 < n := by omega
  go_enter Tryd.func10, Tryd.ntmps10
  go_wp2
  go_ret2
  exact ⟨rfl, rfl⟩
theorem new_bad (n : Int) (w : World) (h : n < 1 ∨ 65536 < n) : Calls Tryd.prog 10 #[.int .i64 n] w fun e w' => e = .returned (.tuple #[.pointer none, .int .i64 3]) ∧ w' = w := by
  by_cases h1 : n < 1
  · go_enter Tryd.func10, Tryd.ntmps10
    go_wp2
    go_ret2
    exact ⟨rfl, rfl⟩
  · have hd : decide (n < 1) = false := by simp; omega
    have hd2 : 65536 < n := by omega
    clear h h1
    go_enter Tryd.func10, Tryd.ntmps10
    go_wp2
    go_ret2
    exact ⟨rfl, rfl⟩
/-- A heap with nothing in it. -/
def Hp.empty (n : Nat) : Hp := ⟨n, [], []⟩
theorem new_any (n : Nat) (w : World) (h1 : 1 ≤ n) (h2 : n ≤ 65536) : Calls Tryd.prog 10 #[.int .i64 n] w fun e w' => e = .returned (.tuple #[hptr w.heap.size, .int .i64 0]) ∧
    Below w.heap.size w w' ∧ w'.heap.size = w.heap.size + 1 ∧ HeapAt w' w.heap.size (fun k => if k = w.heap.size then 1 else 0) (Hp.empty n) := by
  refine (new_walk n w (by omega) (by omega)).mono ?_
  rintro e w' ⟨he, rfl⟩
  refine ⟨he, (Below.refl _ _).alloc (Nat.le_refl _) _, by simp, ⟨⟨h1, h2, by simp [Hp.empty], by simp [Hp.empty, total], fun i => by simp [Hp.empty], by simp [Hp.empty]⟩, fun k hk => ?_, by simp, _, _, [], alloc_at w _, Row.nil _ _ _ _ _, ?_, fun i o ho => by simp [Hp.empty] at ho⟩⟩
  · simp at hk
    exact if_neg (by omega)
  · exact Row.nil _ _ _ _ _
end Go.Proofs.YtleppjdmcjocmaaDoor
