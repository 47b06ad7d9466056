/- The walks of Cons, Vec, Text and Code, given what add does. -/
import Derived.Test.YtleppjdmcjocmaaDoorHpCopyCode
import Derived.Test.YtleppjdmcjocmaaDoorHpStr
namespace Go.Proofs.YtleppjdmcjocmaaDoor
open Go.RowKit Go.Lib
theorem Old.alloc1 {w W : World} (h : Old w W) (hs : w.heap.size ≤ W.heap.size) (o : Obj) : Old w (W.alloc o) ∧ w.heap.size ≤ (W.alloc o).heap.size := ⟨h.alloc hs o, by simp; omega⟩
theorem Old.below {w W W' : World} (h : Old w W) (hs : w.heap.size ≤ W.heap.size) (hb : Below W.heap.size W W') : Old w W' := fun k hk => (hb.block k (by omega)).trans (h k hk)
/-- valid on a heap that stands, in any world in which the blocks of w stand. -/
abbrev ValidIn (w : World) (hb : Nat) : Prop := ∀ W, Old w W → Calls Tryd.prog 36 #[hptr hb] W fun e w' => e = .returned (.bool true) ∧ w' = W
theorem HeapAt.valid {w : World} {hb : Nat} {G : Nat → Nat} {m : Hp} (h : HeapAt w hb G m) : ValidIn w hb := by
  obtain ⟨ok, new, lab, vo, vf, xs, h1, h2, h3, h4⟩ := h
  intro W hW
  exact valid_any hb m.lim W (by have := ok.lim1; omega) (cell_at ((hW hb (lt_at h1)).trans h1))
set_option maxHeartbeats 1000000 in
theorem cons_walk (hb : Nat) (er : Int) (a d r : Wd) (P : World → Prop) (w : World) (cV : ValidIn w hb)
    (cA : Calls Tryd.prog 37 #[hptr hb, .iface 69 (.pointer (some ⟨w.heap.size + 1 + 1 + 1, 0, none⟩))]
      ((((w.alloc (.cells #[.int .i64 a.1, .int .i64 a.2] 28)).alloc (.cells #[.int .i64 d.1, .int .i64 d.2] 28)).alloc (.cells #[.int .i64 0, .int .i64 0] 28)).alloc (.cells #[.int .i64 a.1, .int .i64 a.2, .int .i64 d.1, .int .i64 d.2] 71))
      fun e w' => e = .returned (.tuple #[wv r, .int .i64 er]) ∧ w'.heap[w.heap.size + 1 + 1]? = some (.cells #[.int .i64 0, .int .i64 0] 28 (0, 0)) ∧ P w') :
    Calls Tryd.prog 11 #[hptr hb, wv a, wv d] w fun e w' => e = .returned (.tuple #[wv r, .int .i64 er]) ∧
      ∃ w3, P w3 ∧ w' = (w3.setCell ⟨w.heap.size + 1 + 1, 0, none⟩ (.int .i64 r.1)).setCell ⟨w.heap.size + 1 + 1, 1, none⟩ (.int .i64 r.2) := by
  have CV := Lib.hid cV
  have CA := Lib.hid cA
  clear cV cA
  go_enter Tryd.func11, Tryd.ntmps11
  go_wp2_with (go_at_call 36; refine (CV.out _ ?_).mono ?_; exact (((Old.refl _).alloc (Nat.le_refl _) _).alloc (by simp) _).alloc (by simp; omega) _; rintro e w' ⟨rfl, rfl⟩)
  refine CA.out.mono ?_
  rintro e w3 ⟨rfl, h3, hP⟩
  have d0 : w3.cell? ⟨w.heap.size + 1 + 1, 0, none⟩ = some (.int .i64 0) := cell_at h3
  have d1 : w3.cell? ⟨w.heap.size + 1 + 1, 1, none⟩ = some (.int .i64 0) := cell_at h3
  have e0 : w3.frozen? ⟨w.heap.size + 1 + 1, 0, none⟩ = false := frozen_at h3
  have e1 : w3.frozen? ⟨w.heap.size + 1 + 1, 1, none⟩ = false := frozen_at h3
  have HP := Lib.hid hP
  clear hP h3 CA CV
  go_wp2
  refine bodyPost_ret (v := .tuple #[wv r, .int .i64 er]) ?_ rfl ⟨rfl, w3, HP.out, rfl⟩
  simp [results, Tryd.results11, go_sem, d0, d1]
set_option maxHeartbeats 1000000 in
theorem vec_walk (hb : Nat) (er : Int) (r : Wd) (al : Option Addr) (n cl : Nat) (xs : List Value) (P : World → Prop) (w : World) (hn : n ≤ 65536) (cV : ValidIn w hb)
    (cC : ∀ W, Below w.heap.size w W → Calls Tryd.prog 44 #[.slice al n cl] W fun e w' => ∃ v', e = .returned v' ∧ w'.ownsRow W.heap.size 28 2 v' n xs ∧ Below W.heap.size W w')
    (cA : ∀ W a c, Below w.heap.size w W → W.heap[w.heap.size]? = some (.cells #[.int .i64 0, .int .i64 0] 28 (0, 0)) → W.ownsRow (w.heap.size + 1) 28 2 (.slice a n c) n xs → w.heap.size + 1 ≤ W.heap.size →
      Calls Tryd.prog 37 #[hptr hb, .iface 82 (.pointer (some ⟨W.heap.size, 0, none⟩))] (W.alloc (.cells #[.slice a n c] 84))
      fun e w' => e = .returned (.tuple #[wv r, .int .i64 er]) ∧ w'.heap[w.heap.size]? = some (.cells #[.int .i64 0, .int .i64 0] 28 (0, 0)) ∧ P w') :
    Calls Tryd.prog 17 #[hptr hb, .slice al n cl] w fun e w' => e = .returned (.tuple #[wv r, .int .i64 er]) ∧
      ∃ w3, P w3 ∧ w' = (w3.setCell ⟨w.heap.size, 0, none⟩ (.int .i64 r.1)).setCell ⟨w.heap.size, 1, none⟩ (.int .i64 r.2) := by
  have CV := Lib.hid cV
  have CA := Lib.hid cA
  have CC := Lib.hid cC
  have hn1 : ¬ (65536 : Int) < n := by omega
  clear cV cA cC hn
  go_enter Tryd.func17, Tryd.ntmps17
  go_wp2_with (go_at_call 36; refine (CV.out _ ?_).mono ?_; exact (Old.refl _).alloc (Nat.le_refl _) _; rintro e w' ⟨rfl, rfl⟩)
  refine (CC.out _ ((Below.refl _ _).alloc (Nat.le_refl _) _)).mono ?_
  rintro e W ⟨v', rfl, ho, hb1⟩
  obtain ⟨a, c, rfl⟩ := own_slice ho
  have k0 : W.heap[w.heap.size]? = some (.cells #[.int .i64 0, .int .i64 0] 28 (0, 0)) := (hb1.block _ (by simp)).trans (alloc_at w _)
  have hz : w.heap.size + 1 ≤ W.heap.size := Nat.le_trans (by simp) hb1.size
  have hcA := CA.out W a c (((Below.refl _ _).alloc (Nat.le_refl _) _).trans (hb1.mono (by simp))) k0 (own_base ho (by simp)) hz
  clear ho hb1 k0 hz CA CC CV
  have CA := Lib.hid hcA
  clear hcA
  go_wp2_with fail
  refine CA.out.mono ?_
  rintro e w3 ⟨rfl, h3, hP⟩
  have d0 : w3.cell? ⟨w.heap.size, 0, none⟩ = some (.int .i64 0) := cell_at h3
  have d1 : w3.cell? ⟨w.heap.size, 1, none⟩ = some (.int .i64 0) := cell_at h3
  have e0 : w3.frozen? ⟨w.heap.size, 0, none⟩ = false := frozen_at h3
  have e1 : w3.frozen? ⟨w.heap.size, 1, none⟩ = false := frozen_at h3
  have HP := Lib.hid hP
  clear hP h3 CA
  go_wp2
  refine bodyPost_ret (v := .tuple #[wv r, .int .i64 er]) ?_ rfl ⟨rfl, w3, HP.out, rfl⟩
  simp [results, Tryd.results17, go_sem, d0, d1]
set_option maxHeartbeats 1000000 in
theorem clone_any (s : ByteArray) (w : World) (hs : s.size ≤ 281474976710656) : Calls Tryd.prog 41 #[.string s] w fun e w' => e = .returned (.string s) ∧ Below w.heap.size w w' := by
  have cC := fun W => Tryd.stringslite_Clone s W hs
  clear hs
  go_enter Tryd.func41, Tryd.ntmps41
  go_wp2_with (go_at_call 54; ((with_reducible refine (cC _).mono ?_); rintro e w' ⟨rfl, hb⟩))
  go_ret
  exact ⟨rfl, hb⟩
set_option maxHeartbeats 1000000 in
theorem text_walk (hb n : Nat) (er : Int) (r : Wd) (s : ByteArray) (P : World → Prop) (w : World) (hn : n ≤ 65536) (cV : ValidIn w hb)
    (c39 : ∀ W, Below w.heap.size w W → Calls Tryd.prog 39 #[.string s] W fun e w' => e = .returned (.bool true) ∧ Below W.heap.size W w')
    (c40 : ∀ W, Below w.heap.size w W → Calls Tryd.prog 40 #[.string s] W fun e w' => e = .returned (.int .i64 n) ∧ Below W.heap.size W w')
    (c41 : ∀ W, Calls Tryd.prog 41 #[.string s] W fun e w' => e = .returned (.string s) ∧ Below W.heap.size W w')
    (cA : ∀ W, Below w.heap.size w W → W.heap[w.heap.size]? = some (.cells #[.int .i64 0, .int .i64 0] 28 (0, 0)) → w.heap.size + 1 ≤ W.heap.size →
      Calls Tryd.prog 37 #[hptr hb, .iface 74 (.pointer (some ⟨W.heap.size, 0, none⟩))] (W.alloc (.cells #[.string s, .int .i64 n] 77))
      fun e w' => e = .returned (.tuple #[wv r, .int .i64 er]) ∧ w'.heap[w.heap.size]? = some (.cells #[.int .i64 0, .int .i64 0] 28 (0, 0)) ∧ P w') :
    Calls Tryd.prog 14 #[hptr hb, .string s] w fun e w' => e = .returned (.tuple #[wv r, .int .i64 er]) ∧
      ∃ w3, P w3 ∧ w' = (w3.setCell ⟨w.heap.size, 0, none⟩ (.int .i64 r.1)).setCell ⟨w.heap.size, 1, none⟩ (.int .i64 r.2) := by
  have CV := Lib.hid cV
  have CA := Lib.hid cA
  have C39 := Lib.hid c39
  have C40 := Lib.hid c40
  have C41 := Lib.hid c41
  have hn1 : ¬ (65536 : Int) < n := by omega
  clear cV cA c39 c40 c41 hn
  go_enter Tryd.func14, Tryd.ntmps14
  go_wp2_with (go_at_call 36; refine (CV.out _ ?_).mono ?_; exact (Old.refl _).alloc (Nat.le_refl _) _; rintro e w' ⟨rfl, rfl⟩)
  refine (C39.out _ ((Below.refl _ _).alloc (Nat.le_refl _) _)).mono ?_
  rintro e W ⟨rfl, hb1⟩
  have hz1 : w.heap.size + 1 ≤ W.heap.size := Nat.le_trans (by simp) hb1.size
  have hbw : Below w.heap.size w W := ((Below.refl _ _).alloc (Nat.le_refl _) _).trans (hb1.mono (by simp))
  have k0 : W.heap[w.heap.size]? = some (.cells #[.int .i64 0, .int .i64 0] 28 (0, 0)) := (hb1.block _ (by simp)).trans (alloc_at w _)
  have H1 := Lib.hid (And.intro hz1 (And.intro hbw k0))
  clear hb1 hz1 hbw k0
  go_wp2_with fail
  refine (C40.out _ H1.out.2.1).mono ?_
  rintro e W2 ⟨rfl, hb2⟩
  have H2 := Lib.hid (And.intro (Nat.le_trans H1.out.1 hb2.size) (And.intro (H1.out.2.1.trans (hb2.mono H1.out.2.1.size)) ((hb2.block _ (by have := H1.out.1; omega)).trans H1.out.2.2)))
  clear hb2 H1
  go_wp2_with fail
  refine (C41.out _).mono ?_
  rintro e W3 ⟨rfl, hb3⟩
  have hcA := CA.out W3 (H2.out.2.1.trans (hb3.mono H2.out.2.1.size)) ((hb3.block _ (by have := H2.out.1; omega)).trans H2.out.2.2) (Nat.le_trans H2.out.1 hb3.size)
  clear hb3 H2 CA CV C39 C40 C41
  have CA := Lib.hid hcA
  clear hcA
  go_wp2_with fail
  refine CA.out.mono ?_
  rintro e w3 ⟨rfl, h3, hP⟩
  have d0 : w3.cell? ⟨w.heap.size, 0, none⟩ = some (.int .i64 0) := cell_at h3
  have d1 : w3.cell? ⟨w.heap.size, 1, none⟩ = some (.int .i64 0) := cell_at h3
  have e0 : w3.frozen? ⟨w.heap.size, 0, none⟩ = false := frozen_at h3
  have e1 : w3.frozen? ⟨w.heap.size, 1, none⟩ = false := frozen_at h3
  have HP := Lib.hid hP
  clear hP h3 CA
  go_wp2
  refine bodyPost_ret (v := .tuple #[wv r, .int .i64 er]) ?_ rfl ⟨rfl, w3, HP.out, rfl⟩
  simp [results, Tryd.results14, go_sem, d0, d1]
set_option maxHeartbeats 1000000 in
/-- Text refuses a string that is not valid. -/
theorem text_bad (hb : Nat) (s : ByteArray) (w : World) (cV : ValidIn w hb)
    (c39 : ∀ W, Below w.heap.size w W → Calls Tryd.prog 39 #[.string s] W fun e w' => e = .returned (.bool false) ∧ Below W.heap.size W w') :
    Calls Tryd.prog 14 #[hptr hb, .string s] w fun e w' => e = .returned (.tuple #[wv (0, 0), .int .i64 5]) ∧ Below w.heap.size w w' := by
  have CV := Lib.hid cV
  have C39 := Lib.hid c39
  clear cV c39
  go_enter Tryd.func14, Tryd.ntmps14
  go_wp2_with (go_at_call 36; refine (CV.out _ ?_).mono ?_; exact (Old.refl _).alloc (Nat.le_refl _) _; rintro e w' ⟨rfl, rfl⟩)
  refine (C39.out _ ((Below.refl _ _).alloc (Nat.le_refl _) _)).mono ?_
  rintro e W ⟨rfl, hb1⟩
  have k0 : W.heap[w.heap.size]? = some (.cells #[.int .i64 0, .int .i64 0] 28 (0, 0)) := (hb1.block _ (by simp)).trans (alloc_at w _)
  have hbw : Below w.heap.size w W := ((Below.refl _ _).alloc (Nat.le_refl _) _).trans (hb1.mono (by simp))
  have d0 : W.cell? ⟨w.heap.size, 0, none⟩ = some (.int .i64 0) := cell_at k0
  have d1 : W.cell? ⟨w.heap.size, 1, none⟩ = some (.int .i64 0) := cell_at k0
  have e0 : W.frozen? ⟨w.heap.size, 0, none⟩ = false := frozen_at k0
  have e1 : W.frozen? ⟨w.heap.size, 1, none⟩ = false := frozen_at k0
  have HP := Lib.hid hbw
  clear hb1 k0 hbw
  go_wp2
  refine bodyPost_ret (v := .tuple #[wv (0, 0), .int .i64 5]) ?_ rfl ⟨rfl, ?_⟩
  · simp [results, Tryd.results14, go_sem, d0, d1]
  · exact (HP.out.setCell (Nat.le_refl _) _).setCell (Nat.le_refl _) _
end Go.Proofs.YtleppjdmcjocmaaDoor
