/- The contract of the laws' lives. Condition: unicode/utf8's two tables hold what the program's text lays. -/
import Derived.Test.YtleppjdmcjocmaaDoorHpKit
import Derived.Deep.RegionHeld3
import Derived.Deep.DeepCutAuto
namespace Go.Proofs.YtleppjdmcjocmaaDoor
open Go.RowKit Go.Lib
def m2a : Hp := (Hp.empty 2).addNew (.pair (0, 1) (1, 0))
def m2b : Hp := m2a.addNew (.text ⟨#[97]⟩ 1)
theorem lenD_a : lenD (⟨#[97]⟩ : ByteArray).data.toList = 1 := by decide +kernel
theorem valid_a : validD (⟨#[97]⟩ : ByteArray).data.toList = true := by decide +kernel
theorem cons_m2 {W : World} {hb : Nat} {G : Nat → Nat} (h : HeapAt W hb G (Hp.empty 2)) : Calls Tryd.prog 11 #[hptr hb, wv (0, 1), wv (1, 0)] W fun e w' => e = .returned (.tuple #[wv (2, 0), .int .i64 0]) ∧ Went W w' hb G m2a :=
  cons_any h (adds_new rfl (by decide) (by decide))
theorem text_m2 {W : World} {hb : Nat} {G : Nat → Nat} (h : HeapAt W hb G m2a) (hT : Tabs W) : Calls Tryd.prog 14 #[hptr hb, .string ⟨#[97]⟩] W fun e w' => e = .returned (.tuple #[wv (3, 1), .int .i64 0]) ∧ Went W w' hb G m2b :=
  text_any h hT (by decide) valid_a (by rw [lenD_a]; decide) (by rw [lenD_a]; exact adds_new rfl (by decide) (by decide))
theorem vec_m2 {W : World} {hb : Nat} {G : Nat → Nat} (h : HeapAt W hb G m2b) : Calls Tryd.prog 17 #[hptr hb, .slice none 0 0] W fun e w' => e = .returned (.tuple #[wv (0, 0), .int .i64 7]) ∧ Went W w' hb G m2b :=
  vec_any h (l := []) (.inl ⟨rfl, rfl, rfl⟩) (fun k hk => by cases hk) (by decide) (adds_full rfl)
set_option maxHeartbeats 2000000 in
theorem lives_any (w : World) (hT : Tabs w) : Calls Tryd.prog 8 #[] w fun e w' => e = .returned (.bool true) ∧ Below w.heap.size w w' := by
  have HT := Lib.hid hT
  clear hT
  go_enter Tryd.func8, Tryd.ntmps8
  go_wp2_with fail
  refine (new_any 2 _ (by decide) (by decide)).mono ?_
  rintro e W0 ⟨rfl, hb0, hz0, h0⟩
  have H0 := Lib.hid (And.intro hb0 (And.intro hz0 h0))
  clear hb0 hz0 h0
  go_wp2_with fail
  refine (int_any 1 _).mono ?_
  rintro e Wa ⟨rfl, ha⟩
  have HA := Lib.hid ha
  clear ha
  go_wp2_with fail
  refine (nil_any _).mono ?_
  rintro e Wb ⟨rfl, hbb⟩
  have hWb : Below W0.heap.size W0 Wb := HA.out.trans (hbb.mono HA.out.size)
  have HB := Lib.hid hWb
  clear hbb HA hWb
  go_wp2_with fail
  refine (cons_m2 (H0.out.2.2.below HB.out)).mono ?_
  rintro e W1 ⟨rfl, hw1⟩
  have hbl1 : Below w.heap.size w W1 := (H0.out.1.trans (HB.out.mono H0.out.1.size)).trans (hw1.keeps.below (by have := H0.out.1.size; have := HB.out.size; omega) (fun k hk => if_neg (by omega)))
  obtain ⟨G1, h1, hz1⟩ := hw1.heap
  have hG1 : ∀ k, k < w.heap.size → G1 k = 0 := fun k hk => (hz1 k (by have := H0.out.1.size; have := HB.out.size; omega)).2 (if_neg (by omega))
  have H1 := Lib.hid (And.intro hbl1 (And.intro h1 hG1))
  clear hbl1 h1 hz1 hG1 hw1 H0 HB
  go_wp2_with fail
  refine (text_m2 (H1.out.2.1.below ((Below.refl _ _).alloc (Nat.le_refl _) _)) (HT.out.below (H1.out.1.alloc H1.out.1.size _) HT.out.size)).mono ?_
  rintro e W3 ⟨rfl, hw3⟩
  have k3 : W3.heap[W1.heap.size]? = some (.cells #[.int .i64 2, .int .i64 0] 28 (0, 0)) := (hw3.keeps.block _ (by simp) (H1.out.2.1.new _ (Nat.le_refl _))).trans (alloc_at W1 _)
  have hbl3 : Below w.heap.size w W3 := (H1.out.1.alloc H1.out.1.size _).trans (hw3.keeps.below (by have := H1.out.1.size; simp; omega) H1.out.2.2)
  obtain ⟨G3, h3, hz3⟩ := hw3.heap
  have hG3 : ∀ k, k < w.heap.size → G3 k = 0 := fun k hk => (hz3 k (by have := H1.out.1.size; simp; omega)).2 (H1.out.2.2 k hk)
  have hc3 : G3 W1.heap.size = 0 := (hz3 _ (by simp)).2 (H1.out.2.1.new _ (Nat.le_refl _))
  have H3 := Lib.hid (And.intro hbl3 (And.intro h3 (And.intro hG3 (And.intro hc3 k3))))
  clear hbl3 h3 hz3 hG3 hc3 k3 hw3 H1
  go_wp2_with fail
  refine (vec_m2 (H3.out.2.1.below ((Below.refl _ _).alloc (Nat.le_refl _) _))).mono ?_
  rintro e W5 ⟨rfl, hw5⟩
  have k5 : W5.heap[W3.heap.size]? = some (.cells #[.int .i64 3, .int .i64 1] 28 (0, 0)) := (hw5.keeps.block _ (by simp) (H3.out.2.1.new _ (Nat.le_refl _))).trans (alloc_at W3 _)
  have k6 : W5.heap[W1.heap.size]? = some (.cells #[.int .i64 2, .int .i64 0] 28 (0, 0)) := (hw5.keeps.block _ (by have := lt_at H3.out.2.2.2.2; simp; omega) H3.out.2.2.2.1).trans ((Below.heap_alloc _ _ _ (lt_at H3.out.2.2.2.2)).trans H3.out.2.2.2.2)
  have hbl5 : Below w.heap.size w W5 := (H3.out.1.alloc H3.out.1.size _).trans (hw5.keeps.below (by have := H3.out.1.size; simp; omega) H3.out.2.2.1)
  have q0 : W5.cell? ⟨W3.heap.size, 0, none⟩ = some (.int .i64 3) := cell_at k5
  have q1 : W5.cell? ⟨W3.heap.size, 1, none⟩ = some (.int .i64 1) := cell_at k5
  have q2 : W5.cell? ⟨W1.heap.size, 0, none⟩ = some (.int .i64 2) := cell_at k6
  have q3 : W5.cell? ⟨W1.heap.size, 1, none⟩ = some (.int .i64 0) := cell_at k6
  have z5 : W3.heap.size < W5.heap.size := lt_at k5
  have z6 : W1.heap.size < W5.heap.size := lt_at k6
  have H5 := Lib.hid hbl5
  clear hbl5 k5 k6 hw5 H3 HT
  go_wp2_with fail
  have q4 : (W5.alloc (.cells #[.int .i64 0, .int .i64 0] 28)).cell? ⟨W3.heap.size, 0, none⟩ = some (.int .i64 3) := (World.cell?_of_block (w := W5) (Below.heap_alloc _ _ _ z5)).trans q0
  have q5 : (W5.alloc (.cells #[.int .i64 0, .int .i64 0] 28)).cell? ⟨W3.heap.size, 1, none⟩ = some (.int .i64 1) := (World.cell?_of_block (w := W5) (Below.heap_alloc _ _ _ z5)).trans q1
  have q6 : (W5.alloc (.cells #[.int .i64 0, .int .i64 0] 28)).cell? ⟨W1.heap.size, 0, none⟩ = some (.int .i64 2) := (World.cell?_of_block (w := W5) (Below.heap_alloc _ _ _ z6)).trans q2
  have q7 : (W5.alloc (.cells #[.int .i64 0, .int .i64 0] 28)).cell? ⟨W1.heap.size, 1, none⟩ = some (.int .i64 0) := (World.cell?_of_block (w := W5) (Below.heap_alloc _ _ _ z6)).trans q3
  have z8 : W3.heap.size < (W5.alloc (.cells #[.int .i64 0, .int .i64 0] 28)).heap.size := by simp; omega
  have z9 : W1.heap.size < (W5.alloc (.cells #[.int .i64 0, .int .i64 0] 28)).heap.size := by simp; omega
  have h6 := H5.out.alloc H5.out.size (.cells #[.int .i64 0, .int .i64 0] 28)
  clear q0 q1 q2 q3 z5 z6 H5
  generalize W5.alloc (.cells #[.int .i64 0, .int .i64 0] 28) = W6 at *
  have H6 := Lib.hid h6
  clear h6
  have z8' : W3.heap.size < W6.drew.heap.size := z8
  have z9' : W1.heap.size < W6.drew.heap.size := z9
  go_cut [0] (fun s0 wx => s0 = .bool true ∧ Below w.heap.size w wx)
  case first =>
    go_region_held3 (fun w' => w'.cell? ⟨W3.heap.size, 0, none⟩ = some (.int .i64 3) ∧ w'.cell? ⟨W3.heap.size, 1, none⟩ = some (.int .i64 1) ∧ w'.cell? ⟨W1.heap.size, 0, none⟩ = some (.int .i64 2) ∧ w'.cell? ⟨W1.heap.size, 1, none⟩ = some (.int .i64 0))
      (first | exact ⟨r8, r9, r10, r11⟩ | exact ⟨r4, r5, r6, r7⟩ | exact ⟨q4, q5, q6, q7⟩ | go_keep)
      (first
      | (go_at_call_of 16 (Value.int IntKind.i64 2); refine (word_any _ _ _).mono ?_; rintro e w1 ⟨rfl, hb1⟩; have r4 := (hb1.cell (p := ⟨W3.heap.size, 0, none⟩) z8').trans q4; have r5 := (hb1.cell (p := ⟨W3.heap.size, 1, none⟩) z8').trans q5; have r6 := (hb1.cell (p := ⟨W1.heap.size, 0, none⟩) z9').trans q6; have r7 := (hb1.cell (p := ⟨W1.heap.size, 1, none⟩) z9').trans q7; have HB1 := Lib.hid hb1; have HY := Lib.hid (Nat.lt_of_lt_of_le z8' hb1.size); have HX := Lib.hid (Nat.lt_of_lt_of_le z9' hb1.size); clear hb1)
      | (go_at_call_of 16 (Value.int IntKind.i64 3); refine (word_any _ _ _).mono ?_; rintro e w2 ⟨rfl, hb2⟩; have r8 := (hb2.cell (p := ⟨W3.heap.size, 0, none⟩) HY.out).trans r4; have r9 := (hb2.cell (p := ⟨W3.heap.size, 1, none⟩) HY.out).trans r5; have r10 := (hb2.cell (p := ⟨W1.heap.size, 0, none⟩) HX.out).trans r6; have r11 := (hb2.cell (p := ⟨W1.heap.size, 1, none⟩) HX.out).trans r7; have HB2 := Lib.hid hb2; clear hb2))
    all_goals (go_wp2_with fail; go_meet; exact ⟨rfl, (H6.out.drew.trans (HB1.out.mono H6.out.size)).trans (HB2.out.mono (Nat.le_trans H6.out.size HB1.out.size))⟩)
  case rest =>
    obtain ⟨rfl, hb9⟩ := hcut
    have H9 := Lib.hid hb9
    clear hb9
    go_wp2
    go_ret
    exact ⟨rfl, H9.out⟩
end Go.Proofs.YtleppjdmcjocmaaDoor
