/- lives: the chapter's example. -/
import Derived.Test.YtgkblfegjmeolaaVaGet
import Derived.Test.YtgkblfegjmeolaaVaSet
import Derived.Test.YtgkblfegjmeolaaVaNew
import Derived.Test.YtgkblfegjmeolaaVaUnbBad
import Derived.Test.YtgkblfegjmeolaaVaUnb2
namespace Go.Proofs.Ytgkblfegjmeolaa
open Go.RowKit Go.Lib Go.Shelf
def lv1 : Vs := vsN.put (vsN.home 70) 70 ((0, 1), true)
def lv2 : Vs := (lv1.bound (lv1.home 70) 70).put (lv1.home 70) 70 ((0, 2), true)
def lv3 : Vs := lv2.unbind 0
theorem lv_facts : vsN.cnt ≤ 1000000 ∧ hasC (vsN.marks 70) = false ∧ lv1.cnt ≤ 1000000 ∧ hasC (lv1.marks 70) = false ∧ lv1.binds.length < 2000 ∧ lv2.binds.length ≤ 2000 ∧ lv2.at (lv2.home 70) 70 = ((0, 2), true) ∧ lv3.at (lv3.home 70) 70 = ((0, 1), true) :=
  ⟨by decide, by decide, by decide, by decide, by decide, by decide, by rfl, by rfl⟩
set_option maxRecDepth 100000 in
set_option maxHeartbeats 1000000 in
theorem lives_any (w : World) : Calls Try.prog 8 #[] w fun e w' => e = .returned (.bool true) ∧ Below w.heap.size w w' := by
  have HF := Lib.hid lv_facts
  go_enter Try.func8, Try.ntmps8
  go_wp2_with fail
  refine (new_any w).mono ?_
  rintro e W1 ⟨vb, G1, rfl, h1⟩
  have H1 := Lib.hid h1
  clear h1
  go_wp2_with fail
  refine (int1_any 1 W1).mono ?_
  rintro e W2 ⟨rfl, hb⟩
  have H2 := Lib.hid (H1.out.junk hb)
  clear hb H1
  go_wp2_with fail
  refine (set_ok H2.out.vars 70 (by decide) HF.out.1 HF.out.2.1 (0, 1)).mono ?_
  rintro e W3 ⟨rfl, hw⟩
  obtain ⟨G3, h3⟩ := H2.out.went hw
  have H3 := Lib.hid (show VK w W3 vb G3 lv1 [] from h3)
  clear hw h3 H2
  go_wp2_with fail
  refine (int1_any 2 W3).mono ?_
  rintro e W4 ⟨rfl, hb⟩
  have H4 := Lib.hid (H3.out.junk hb)
  clear hb H3
  go_wp2_with fail
  refine (bind_ok H4.out.vars 70 (by decide) HF.out.2.2.1 HF.out.2.2.2.1 (0, 2) HF.out.2.2.2.2.1).mono ?_
  rintro e W5 ⟨rfl, hw⟩
  obtain ⟨G5, h5⟩ := H4.out.went hw
  have H5 := Lib.hid (show VK w W5 vb G5 lv2 [] from h5)
  clear hw h5 H4
  go_wp2_with fail
  have c6 := get_ok H5.out.vars 70 (by decide)
  rw [HF.out.2.2.2.2.2.2.1] at c6
  refine c6.mono ?_
  rintro e W6 ⟨rfl, hb⟩
  have H6 := Lib.hid (H5.out.junk hb)
  clear hb H5 c6
  go_wp2_with fail
  have h6 := H6.out.add (b := W6.heap.size) ((Below.refl _ _).alloc (Nat.le_refl _) (.cells #[.int .i64 0, .int .i64 2] 28)) (Nat.le_refl _) (alloc_at W6 _)
  generalize W6.alloc (.cells #[.int .i64 0, .int .i64 2] 28) = X6 at *
  generalize W6.heap.size = b6 at *
  have c7 : Calls Try.prog 19 #[hptr vb, .int .i64 0] X6 fun e w' => e = .returned (.int .i64 0) ∧ VWent X6 w' vb G5 lv3 := unbind_ok h6.vars 0 (Nat.zero_le _) HF.out.2.2.2.2.2.1
  have H6b := Lib.hid h6
  clear h6 H6
  refine c7.mono ?_
  rintro e W7 ⟨rfl, hw⟩
  obtain ⟨G7, h7⟩ := H6b.out.went hw
  have H7 := Lib.hid h7
  clear hw h7 H6b c7
  go_wp2_with fail
  have c8 := get_ok H7.out.vars 70 (by decide)
  rw [HF.out.2.2.2.2.2.2.2] at c8
  refine c8.mono ?_
  rintro e W8 ⟨rfl, hb⟩
  have H8 := Lib.hid (H7.out.junk hb)
  clear hb H7 c8
  go_wp2_with fail
  have h8 := H8.out.add (b := W8.heap.size) ((Below.refl _ _).alloc (Nat.le_refl _) (.cells #[.int .i64 0, .int .i64 1] 28)) (Nat.le_refl _) (alloc_at W8 _)
  generalize W8.alloc (.cells #[.int .i64 0, .int .i64 1] 28) = X8 at *
  generalize W8.heap.size = b8 at *
  have H8b := Lib.hid h8
  clear h8 H8
  have hS : ∀ X, Below X8.heap.size X8 X → X.cell? ⟨b6, 0, none⟩ = some (.int .i64 0) ∧ X.cell? ⟨b6, 1, none⟩ = some (.int .i64 2) ∧ X.cell? ⟨b8, 0, none⟩ = some (.int .i64 0) ∧ X.cell? ⟨b8, 1, none⟩ = some (.int .i64 1) := fun X hX => by
    have e6 := ((H8b.out.junk hX).has (b6, .cells #[.int .i64 0, .int .i64 2] 28) (.tail _ (.head _))).1
    have e8 := ((H8b.out.junk hX).has (b8, .cells #[.int .i64 0, .int .i64 1] 28) (.head _)).1
    exact ⟨(cell_at e6).trans rfl, (cell_at e6).trans rfl, (cell_at e8).trans rfl, (cell_at e8).trans rfl⟩
  have HS := Lib.hid hS
  clear hS
  have HK := Lib.hid (show Below X8.heap.size X8 X8.drew from (Below.refl _ _).drew)
  go_region_held3 (fun X => X.cell? ⟨b6, 0, none⟩ = some (.int .i64 0) ∧ X.cell? ⟨b6, 1, none⟩ = some (.int .i64 2) ∧ X.cell? ⟨b8, 0, none⟩ = some (.int .i64 0) ∧ X.cell? ⟨b8, 1, none⟩ = some (.int .i64 1))
    (first | with_reducible exact HS.out _ HK.out)
    (first
      | (go_at_call 11; (with_reducible refine (int1_any _ _).mono ?_); rintro e wq ⟨rfl, hb2⟩; have HK2 := Lib.hid (HK.out.trans (hb2.mono HK.out.size)); clear HK hb2; have HK := HK2; clear HK2))
  go_wp2
  go_ret
  exact ⟨rfl, (H8b.out.junk HK.out).below⟩
end Go.Proofs.Ytgkblfegjmeolaa
