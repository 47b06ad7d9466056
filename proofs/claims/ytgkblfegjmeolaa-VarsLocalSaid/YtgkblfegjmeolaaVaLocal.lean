/- VarsLocal: the walk. -/
import Derived.Test.YtgkblfegjmeolaaVaConst
import Derived.Test.YtgkblfegjmeolaaVaKill
namespace Go.Proofs.Ytgkblfegjmeolaa
open Go.RowKit Go.Lib Go.Shelf
theorem upd_at (C : Nat → Nat → Option Cl) (k n : Nat) (x : Option Cl) : upd C k n x k n = x := by unfold upd; rw [if_pos ⟨rfl, rfl⟩]
theorem upd_off (C : Nat → Nat → Option Cl) {k k' : Nat} (n n' : Nat) (x : Option Cl) (h : k' ≠ k) : upd C k n x k' n' = C k' n' := by unfold upd; rw [if_neg (fun e => h e.1)]
theorem updS_off (C : Nat → Nat → Option Cl) {k k' : Nat} (n : Nat) (h : k' ≠ k) : updS C k k' n = C k' n := by unfold updS; rw [if_neg h]
theorem updS_at (C : Nat → Nat → Option Cl) (k n : Nat) : updS C k k n = none := by unfold updS; rw [if_pos rfl]
section
variable (n a b : Nat) (x y z : Wd)
def ls2 : Vs := (cs1 n x).put a n (y, true)
def ls3 : Vs := { ls2 n a x y with scope := b }
def ls4 : Vs := (ls3 n a b x y).put b n (x, true)
def ls5 : Vs := (ls4 n a b x y).put b n (z, true)
def ls6 (s : Nat) : Vs := { ls5 n a b x y z with scope := s }
def ls9 : Vs := (ls6 n a b x y z a).kill n
def ls10 : Vs := { ls9 n a b x y z with scope := b }
def ls11 : Vs := (ls10 n a b x y z).drop b
theorem homeN {m : Vs} (n : Nat) (h : m.cells m.scope n = none) : m.home n = 0 := by unfold Vs.home; rw [h]; rfl
theorem homeS {m : Vs} (n : Nat) {c : Cl} (h : m.cells m.scope n = some c) : m.home n = m.scope := by unfold Vs.home; rw [h]; rfl
theorem atS {m : Vs} {k n : Nat} {c : Cl} (h : m.cells k n = some c) : m.at k n = c := by unfold Vs.at; rw [h]; rfl
variable (h1 : 1 ≤ a) (h2 : 1 ≤ b) (hne : a ≠ b)
include h1 h2 hne
omit h1 in
theorem ls3_b : (ls3 n a b x y).cells b n = none := by
  show upd (upd vsN.cells 0 n (some (x, true))) a n (some (y, true)) b n = none
  rw [upd_off _ _ _ _ (by omega), upd_off _ _ _ _ (by omega), vsN_none b n h2]
omit h2 hne in
theorem ls3_0 : (ls3 n a b x y).cells 0 n = some (x, true) := by
  show upd (upd vsN.cells 0 n (some (x, true))) a n (some (y, true)) 0 n = _
  rw [upd_off _ _ _ _ (by omega), upd_at]
theorem ls3_get : (ls3 n a b x y).at ((ls3 n a b x y).home n) n = (x, true) := by
  rw [homeN n (ls3_b n a b x y h2 hne), atS (ls3_0 n a b x y h1)]
theorem ls3_make : (ls3 n a b x y).makeLocal n = ls4 n a b x y := by
  unfold Vs.makeLocal
  rw [show (ls3 n a b x y).cells (ls3 n a b x y).scope n = none from ls3_b n a b x y h2 hne, atS (ls3_0 n a b x y h1)]
  rfl
omit h1 h2 hne in
theorem ls4_home : (ls4 n a b x y).home n = b := homeS n (c := (x, true)) (upd_at _ _ _ _)
omit h1 h2 hne in
theorem ls6_b (s : Nat) : (ls6 n a b x y z s).cells b n = some (z, true) := upd_at _ _ _ _
omit h1 h2 in
theorem ls6_a (s : Nat) : (ls6 n a b x y z s).cells a n = some (y, true) := by
  show upd (upd (upd (upd vsN.cells 0 n (some (x, true))) a n (some (y, true))) b n (some (x, true))) b n (some (z, true)) a n = _
  rw [upd_off _ _ _ _ (by omega), upd_off _ _ _ _ (by omega), upd_at]
omit hne in
theorem ls6_0 (s : Nat) : (ls6 n a b x y z s).cells 0 n = some (x, true) := by
  show upd (upd (upd (upd vsN.cells 0 n (some (x, true))) a n (some (y, true))) b n (some (x, true))) b n (some (z, true)) 0 n = _
  rw [upd_off _ _ _ _ (by omega), upd_off _ _ _ _ (by omega), upd_off _ _ _ _ (by omega), upd_at]
omit h1 h2 in
theorem ls6_getA : (ls6 n a b x y z a).at ((ls6 n a b x y z a).home n) n = (y, true) := by
  have hh : (ls6 n a b x y z a).home n = a := homeS n (ls6_a n a b x y z hne a)
  rw [hh, atS (ls6_a n a b x y z hne a)]
omit hne in
theorem ls6_get0 : (ls6 n a b x y z 0).at ((ls6 n a b x y z 0).home n) n = (x, true) := by
  rw [home_zero (m := ls6 n a b x y z 0) rfl n, atS (ls6_0 n a b x y z h1 h2 0)]
omit h2 hne in
theorem ls9_none (j : Nat) : (ls9 n a b x y z).cells a j = none := by
  show upd (upd (upd (upd (upd vsN.cells 0 n (some (x, true))) a n (some (y, true))) b n (some (x, true))) b n (some (z, true))) a n none a j = none
  by_cases e : j = n
  · rw [e, upd_at]
  · have off : ∀ C c (k : Nat), upd C k n c a j = C a j := fun C c k => by unfold upd; rw [if_neg (fun q => e q.2)]
    rw [off, off, off, off, off, vsN_none a j h1]
omit hne in
theorem ls9_0 : (ls9 n a b x y z).cells 0 n = some (x, true) := by
  show upd (ls6 n a b x y z a).cells a n none 0 n = _
  rw [upd_off _ _ _ _ (by omega), ls6_0 n a b x y z h1 h2 a]
omit hne in
theorem ls9_get : (ls9 n a b x y z).at ((ls9 n a b x y z).home n) n = (x, true) := by
  rw [homeN n (ls9_none n a b x y z h1 n), atS (ls9_0 n a b x y z h1 h2)]
omit h1 h2 hne in
theorem ls11_scope : (ls11 n a b x y z).scope = 0 := by
  show (if b = b then 0 else b) = 0
  rw [if_pos rfl]
omit hne in
theorem ls11_0 : (ls11 n a b x y z).cells 0 n = some (x, true) := by
  show updS (ls9 n a b x y z).cells b 0 n = _
  rw [updS_off _ _ (by omega), ls9_0 n a b x y z h1 h2]
omit hne in
theorem ls11_get : (ls11 n a b x y z).at ((ls11 n a b x y z).home n) n = (x, true) := by
  rw [home_zero (ls11_scope n a b x y z) n, atS (ls11_0 n a b x y z h1 h2)]
omit h1 h2 hne in
theorem ls11_b : (ls11 n a b x y z).cells b n = none := updS_at _ _ _
omit h2 in
theorem ls11_a (j : Nat) : (ls11 n a b x y z).cells a j = none := by
  show updS (ls9 n a b x y z).cells b a j = _
  rw [updS_off _ _ hne, ls9_none n a b x y z h1]
end
set_option maxRecDepth 100000 in
set_option maxHeartbeats 1000000 in
theorem local_any (nn aa bb : Int) (x y z : Wd) (w : World) : Calls Try.prog 5 #[.int .i64 nn, .int .i64 aa, .int .i64 bb, wv x, wv y, wv z] w fun e w' => e = .returned (.bool true) ∧ Below w.heap.size w w' := by
  obtain ⟨q0, q1⟩ := pickZ_in nn 16382 (by decide)
  obtain ⟨q2, q3⟩ := pickZ_in aa 65536 (by decide)
  obtain ⟨q4, q5⟩ := pickZ_in bb 65536 (by decide)
  obtain ⟨n, hn⟩ : ∃ n : Nat, 2 + pickZ nn 16382 = (n : Int) := ⟨(2 + pickZ nn 16382).toNat, by omega⟩
  obtain ⟨a, ha⟩ : ∃ a : Nat, 1 + pickZ aa 65536 = (a : Int) := ⟨(1 + pickZ aa 65536).toNat, by omega⟩
  obtain ⟨b, hb⟩ : ∃ b : Nat, 1 + pickZ bb 65536 = (b : Int) := ⟨(1 + pickZ bb 65536).toNat, by omega⟩
  have HN := Lib.hid (show 2 ≤ n ∧ n < 16384 ∧ 1 ≤ a ∧ a ≤ 65536 ∧ 1 ≤ b ∧ b ≤ 65536 by omega)
  have n1 : (n : Int) < 16384 := by omega
  have a1 : (a : Int) ≤ 65536 := by omega
  have b1 : (b : Int) ≤ 65536 := by omega
  clear q0 q1 q2 q3 q4 q5
  have hb0 : Below w.heap.size w (((w.alloc (.cells #[.int .i64 x.1, .int .i64 x.2] 28)).alloc (.cells #[.int .i64 y.1, .int .i64 y.2] 28)).alloc (.cells #[.int .i64 z.1, .int .i64 z.2] 28)) := (((Below.refl _ _).alloc (Nat.le_refl _) _).alloc (by simp) _).alloc (by simp; omega) _
  have s1 : (w.alloc (.cells #[.int .i64 x.1, .int .i64 x.2] 28)).heap.size = w.heap.size + 1 := by simp
  have s2 : ((w.alloc (.cells #[.int .i64 x.1, .int .i64 x.2] 28)).alloc (.cells #[.int .i64 y.1, .int .i64 y.2] 28)).heap.size = w.heap.size + 2 := by simp
  have k0 : (((w.alloc (.cells #[.int .i64 x.1, .int .i64 x.2] 28)).alloc (.cells #[.int .i64 y.1, .int .i64 y.2] 28)).alloc (.cells #[.int .i64 z.1, .int .i64 z.2] 28)).heap[w.heap.size]? = some (.cells #[.int .i64 x.1, .int .i64 x.2] 28) := ((((Below.refl _ _).alloc (Nat.le_refl _) _).alloc (by omega) _).block _ (by omega)).trans (alloc_at w _)
  have k1 : (((w.alloc (.cells #[.int .i64 x.1, .int .i64 x.2] 28)).alloc (.cells #[.int .i64 y.1, .int .i64 y.2] 28)).alloc (.cells #[.int .i64 z.1, .int .i64 z.2] 28)).heap[w.heap.size + 1]? = some (.cells #[.int .i64 y.1, .int .i64 y.2] 28) := by
    refine (((Below.refl _ _).alloc (Nat.le_refl _) _).block _ (by omega)).trans ?_
    rw [← s1]
    exact alloc_at _ _
  have k2 : (((w.alloc (.cells #[.int .i64 x.1, .int .i64 x.2] 28)).alloc (.cells #[.int .i64 y.1, .int .i64 y.2] 28)).alloc (.cells #[.int .i64 z.1, .int .i64 z.2] 28)).heap[w.heap.size + 2]? = some (.cells #[.int .i64 z.1, .int .i64 z.2] 28) := by
    rw [← s2]
    exact alloc_at _ _
  clear s1 s2
  go_enter Try.func5, Try.ntmps5
  go_wp2_with fail
  generalize (((w.alloc (.cells #[.int .i64 x.1, .int .i64 x.2] 28)).alloc (.cells #[.int .i64 y.1, .int .i64 y.2] 28)).alloc (.cells #[.int .i64 z.1, .int .i64 z.2] 28)) = W at *
  have hX0 : ∀ X, Below W.heap.size W X → X.heap[w.heap.size]? = some (.cells #[.int .i64 x.1, .int .i64 x.2] 28) ∧ X.heap[w.heap.size + 1]? = some (.cells #[.int .i64 y.1, .int .i64 y.2] 28) ∧ X.heap[w.heap.size + 2]? = some (.cells #[.int .i64 z.1, .int .i64 z.2] 28) := fun X hX =>
    ⟨(hX.block _ (lt_at k0)).trans k0, (hX.block _ (lt_at k1)).trans k1, (hX.block _ (lt_at k2)).trans k2⟩
  have HX0 := Lib.hid hX0
  have HW := Lib.hid hb0
  clear hX0 hb0 k0 k1 k2
  refine (lives_any W).mono ?_
  rintro e W1 ⟨rfl, hbl⟩
  have HX := Lib.hid (fun X (hX : Below W1.heap.size W1 X) => HX0.out X (hbl.trans (hX.mono hbl.size)))
  have H0 := Lib.hid (HW.out.trans (hbl.mono HW.out.size))
  clear hbl HX0 HW
  go_wp2_with fail
  refine (pick_any nn 16382 W1 (by decide) (by decide)).mono ?_
  rintro e W2 ⟨rfl, rfl⟩
  go_wp2_with fail
  refine (pick_any aa 65536 W2 (by decide) (by decide)).mono ?_
  rintro e W3 ⟨rfl, rfl⟩
  go_wp2_with fail
  refine (pick_any bb 65536 W3 (by decide) (by decide)).mono ?_
  rintro e W4 ⟨rfl, rfl⟩
  go_wp2_with fail
  refine (new_any W4).mono ?_
  rintro e W5 ⟨vb, G5, rfl, h5⟩
  have H5 := Lib.hid h5
  clear h5
  by_cases hne : a = b
  · subst hne
    go_wp2
    go_ret
    exact ⟨rfl, H0.out.trans (H5.out.below.mono H0.out.size)⟩
  · have hneI : ((a : Int) == (b : Int)) = false := by rw [beq_eq_false_iff_ne]; omega
    have hneJ : ¬ (a : Int) = (b : Int) := by omega
    obtain ⟨zx, zy, zz⟩ := HX.out _ H5.out.below
    have zx0 := (cell_at (i := 0) zx).trans rfl
    have zx1 := (cell_at (i := 1) zx).trans rfl
    have zy0 := (cell_at (i := 0) zy).trans rfl
    have zy1 := (cell_at (i := 1) zy).trans rfl
    have zz0 := (cell_at (i := 0) zz).trans rfl
    have zz1 := (cell_at (i := 1) zz).trans rfl
    clear zx zy zz
    go_wp2_with fail
    refine (setdef_ok H5.out.vars n HN.out.2.1 (by decide) (by show hasC (vsN.marks n) = false; rw [vsN_marks n HN.out.1]; rfl) x).mono ?_
    rintro e W6 ⟨rfl, hw⟩
    obtain ⟨G6, h6⟩ := H5.out.went hw
    have H6 := Lib.hid (show VK W4 W6 vb G6 (cs1 n x) [] from h6)
    clear hw h6 H5
    clear zx0 zx1 zy0 zy1 zz0 zz1
    obtain ⟨zx, zy, zz⟩ := HX.out _ H6.out.below
    have zx0 := (cell_at (i := 0) zx).trans rfl
    have zx1 := (cell_at (i := 1) zx).trans rfl
    have zy0 := (cell_at (i := 0) zy).trans rfl
    have zy1 := (cell_at (i := 1) zy).trans rfl
    have zz0 := (cell_at (i := 0) zz).trans rfl
    have zz1 := (cell_at (i := 1) zz).trans rfl
    clear zx zy zz
    go_wp2_with fail
    refine (setlocal_ok H6.out.vars n HN.out.2.1 (by show vsN.cnt + 2 ≤ 1000000; decide) (by show hasC (vsN.marks n) = false; rw [vsN_marks n HN.out.1]; rfl) a HN.out.2.2.1 HN.out.2.2.2.1 y).mono ?_
    rintro e W7 ⟨rfl, hw⟩
    obtain ⟨G7, h7⟩ := H6.out.went hw
    have H7 := Lib.hid (show VK W4 W7 vb G7 (ls2 n a x y) [] from h7)
    clear hw h7 H6
    clear zx0 zx1 zy0 zy1 zz0 zz1
    go_wp2_with fail
    refine (setscope_ok H7.out.vars b HN.out.2.2.2.2.1 HN.out.2.2.2.2.2).mono ?_
    rintro e W8 ⟨rfl, hw⟩
    obtain ⟨G8, h8⟩ := H7.out.went hw
    have H8 := Lib.hid (show VK W4 W8 vb G8 (ls3 n a b x y) [] from h8)
    clear hw h8 H7
    go_wp2_with fail
    have cG := get_ok H8.out.vars n HN.out.2.1
    rw [ls3_get n a b x y HN.out.2.2.1 HN.out.2.2.2.2.1 hne] at cG
    refine cG.mono ?_
    rintro e W9 ⟨rfl, hbb⟩
    have H9 := Lib.hid (H8.out.junk hbb)
    clear hbb cG H8
    go_wp2_with fail
    have h10 := H9.out.add (b := W9.heap.size) ((Below.refl _ _).alloc (Nat.le_refl _) (.cells #[.int .i64 x.1, .int .i64 x.2] 28)) (Nat.le_refl _) (alloc_at W9 _)
    generalize W9.alloc (.cells #[.int .i64 x.1, .int .i64 x.2] 28) = W10 at *
    generalize W9.heap.size = bp at *
    have H10 := Lib.hid h10
    clear h10 H9
    have cS := makelocal_ok H10.out.vars n HN.out.2.1 (by show vsN.cnt + 2 + 2 ≤ 1000000; decide) (by show hasC (vsN.marks n) = false; rw [vsN_marks n HN.out.1]; rfl) HN.out.2.2.2.2.1
    rw [ls3_make n a b x y HN.out.2.2.1 HN.out.2.2.2.2.1 hne] at cS
    refine (cS).mono ?_
    rintro e W11 ⟨rfl, hw⟩
    obtain ⟨G11, h11⟩ := H10.out.went hw
    have H11 := Lib.hid (show VK W4 W11 vb G11 (ls4 n a b x y) [(bp, (.cells #[.int .i64 x.1, .int .i64 x.2] 28))] from h11)
    clear hw h11 H10 cS
    obtain ⟨zx, zy, zz⟩ := HX.out _ H11.out.below
    have zx0 := (cell_at (i := 0) zx).trans rfl
    have zx1 := (cell_at (i := 1) zx).trans rfl
    have zy0 := (cell_at (i := 0) zy).trans rfl
    have zy1 := (cell_at (i := 1) zy).trans rfl
    have zz0 := (cell_at (i := 0) zz).trans rfl
    have zz1 := (cell_at (i := 1) zz).trans rfl
    clear zx zy zz
    go_wp2_with fail
    have cS := set_ok H11.out.vars n HN.out.2.1 (by show vsN.cnt + 2 + 2 + 2 ≤ 1000000; decide) (by show hasC (vsN.marks n) = false; rw [vsN_marks n HN.out.1]; rfl) z
    rw [ls4_home n a b x y] at cS
    refine (cS).mono ?_
    rintro e W12 ⟨rfl, hw⟩
    obtain ⟨G12, h12⟩ := H11.out.went hw
    have H12 := Lib.hid (show VK W4 W12 vb G12 (ls5 n a b x y z) [(bp, (.cells #[.int .i64 x.1, .int .i64 x.2] 28))] from h12)
    clear hw h12 H11 cS
    clear zx0 zx1 zy0 zy1 zz0 zz1
    go_wp2_with fail
    refine (setscope_ok H12.out.vars a HN.out.2.2.1 HN.out.2.2.2.1).mono ?_
    rintro e W13 ⟨rfl, hw⟩
    obtain ⟨G13, h13⟩ := H12.out.went hw
    have H13 := Lib.hid (show VK W4 W13 vb G13 (ls6 n a b x y z a) [(bp, (.cells #[.int .i64 x.1, .int .i64 x.2] 28))] from h13)
    clear hw h13 H12
    go_wp2_with fail
    have cG := get_ok H13.out.vars n HN.out.2.1
    rw [ls6_getA n a b x y z hne] at cG
    refine cG.mono ?_
    rintro e W14 ⟨rfl, hbb⟩
    have H14 := Lib.hid (H13.out.junk hbb)
    clear hbb cG H13
    go_wp2_with fail
    have h15 := H14.out.add (b := W14.heap.size) ((Below.refl _ _).alloc (Nat.le_refl _) (.cells #[.int .i64 y.1, .int .i64 y.2] 28)) (Nat.le_refl _) (alloc_at W14 _)
    generalize W14.alloc (.cells #[.int .i64 y.1, .int .i64 y.2] 28) = W15 at *
    generalize W14.heap.size = bq at *
    have H15 := Lib.hid h15
    clear h15 H14
    refine (setscope_0 H15.out.vars).mono ?_
    rintro e W16 ⟨rfl, hw⟩
    obtain ⟨G16, h16⟩ := H15.out.went hw
    have H16 := Lib.hid (show VK W4 W16 vb G16 (ls6 n a b x y z 0) [(bq, (.cells #[.int .i64 y.1, .int .i64 y.2] 28)), (bp, (.cells #[.int .i64 x.1, .int .i64 x.2] 28))] from h16)
    clear hw h16 H15
    go_wp2_with fail
    have cG := get_ok H16.out.vars n HN.out.2.1
    rw [ls6_get0 n a b x y z HN.out.2.2.1 HN.out.2.2.2.2.1] at cG
    refine cG.mono ?_
    rintro e W17 ⟨rfl, hbb⟩
    have H17 := Lib.hid (H16.out.junk hbb)
    clear hbb cG H16
    go_wp2_with fail
    have h18 := H17.out.add (b := W17.heap.size) ((Below.refl _ _).alloc (Nat.le_refl _) (.cells #[.int .i64 x.1, .int .i64 x.2] 28)) (Nat.le_refl _) (alloc_at W17 _)
    generalize W17.alloc (.cells #[.int .i64 x.1, .int .i64 x.2] 28) = W18 at *
    generalize W17.heap.size = br at *
    have H18 := Lib.hid h18
    clear h18 H17
    have cG := local_ok H18.out.vars n HN.out.2.1 b HN.out.2.2.2.2.1 HN.out.2.2.2.2.2 (by rw [ls6_b]; rfl)
    rw [atS (ls6_b n a b x y z 0)] at cG
    refine cG.mono ?_
    rintro e W19 ⟨rfl, hbb⟩
    have H19 := Lib.hid (H18.out.junk hbb)
    clear hbb cG H18
    go_wp2_with fail
    have h20 := H19.out.add (b := W19.heap.size) ((Below.refl _ _).alloc (Nat.le_refl _) (.cells #[.int .i64 z.1, .int .i64 z.2] 28)) (Nat.le_refl _) (alloc_at W19 _)
    generalize W19.alloc (.cells #[.int .i64 z.1, .int .i64 z.2] 28) = W20 at *
    generalize W19.heap.size = bs at *
    have H20 := Lib.hid h20
    clear h20 H19
    refine (setscope_ok H20.out.vars a HN.out.2.2.1 HN.out.2.2.2.1).mono ?_
    rintro e W21 ⟨rfl, hw⟩
    obtain ⟨G21, h21⟩ := H20.out.went hw
    have H21 := Lib.hid (show VK W4 W21 vb G21 (ls6 n a b x y z a) [(bs, (.cells #[.int .i64 z.1, .int .i64 z.2] 28)), (br, (.cells #[.int .i64 x.1, .int .i64 x.2] 28)), (bq, (.cells #[.int .i64 y.1, .int .i64 y.2] 28)), (bp, (.cells #[.int .i64 x.1, .int .i64 x.2] 28))] from h21)
    clear hw h21 H20
    go_wp2_with fail
    refine (killlocal_ok H21.out.vars n HN.out.2.1 HN.out.2.2.1).mono ?_
    rintro e W22 ⟨rfl, hw⟩
    obtain ⟨G22, h22⟩ := H21.out.went hw
    have H22 := Lib.hid (show VK W4 W22 vb G22 (ls9 n a b x y z) [(bs, (.cells #[.int .i64 z.1, .int .i64 z.2] 28)), (br, (.cells #[.int .i64 x.1, .int .i64 x.2] 28)), (bq, (.cells #[.int .i64 y.1, .int .i64 y.2] 28)), (bp, (.cells #[.int .i64 x.1, .int .i64 x.2] 28))] from h22)
    clear hw h22 H21
    go_wp2_with fail
    have cG := get_ok H22.out.vars n HN.out.2.1
    rw [ls9_get n a b x y z HN.out.2.2.1 HN.out.2.2.2.2.1] at cG
    refine cG.mono ?_
    rintro e W23 ⟨rfl, hbb⟩
    have H23 := Lib.hid (H22.out.junk hbb)
    clear hbb cG H22
    go_wp2_with fail
    have h24 := H23.out.add (b := W23.heap.size) ((Below.refl _ _).alloc (Nat.le_refl _) (.cells #[.int .i64 x.1, .int .i64 x.2] 28)) (Nat.le_refl _) (alloc_at W23 _)
    generalize W23.alloc (.cells #[.int .i64 x.1, .int .i64 x.2] 28) = W24 at *
    generalize W23.heap.size = bt at *
    have H24 := Lib.hid h24
    clear h24 H23
    refine (setscope_ok H24.out.vars b HN.out.2.2.2.2.1 HN.out.2.2.2.2.2).mono ?_
    rintro e W25 ⟨rfl, hw⟩
    obtain ⟨G25, h25⟩ := H24.out.went hw
    have H25 := Lib.hid (show VK W4 W25 vb G25 (ls10 n a b x y z) [(bt, (.cells #[.int .i64 x.1, .int .i64 x.2] 28)), (bs, (.cells #[.int .i64 z.1, .int .i64 z.2] 28)), (br, (.cells #[.int .i64 x.1, .int .i64 x.2] 28)), (bq, (.cells #[.int .i64 y.1, .int .i64 y.2] 28)), (bp, (.cells #[.int .i64 x.1, .int .i64 x.2] 28))] from h25)
    clear hw h25 H24
    go_wp2_with fail
    refine (drop_ok H25.out.vars b HN.out.2.2.2.2.1 HN.out.2.2.2.2.2).mono ?_
    rintro e W26 ⟨rfl, hw⟩
    obtain ⟨G26, h26⟩ := H25.out.went hw
    have H26 := Lib.hid (show VK W4 W26 vb G26 (ls11 n a b x y z) [(bt, (.cells #[.int .i64 x.1, .int .i64 x.2] 28)), (bs, (.cells #[.int .i64 z.1, .int .i64 z.2] 28)), (br, (.cells #[.int .i64 x.1, .int .i64 x.2] 28)), (bq, (.cells #[.int .i64 y.1, .int .i64 y.2] 28)), (bp, (.cells #[.int .i64 x.1, .int .i64 x.2] 28))] from h26)
    clear hw h26 H25
    go_wp2_with fail
    have cG := get_ok H26.out.vars n HN.out.2.1
    rw [ls11_get n a b x y z HN.out.2.2.1 HN.out.2.2.2.2.1] at cG
    refine cG.mono ?_
    rintro e Wf ⟨rfl, hbb⟩
    have hbA : Below Wf.heap.size Wf (Wf.alloc (.cells #[.int .i64 x.1, .int .i64 x.2] 28)) := (Below.refl _ _).alloc (Nat.le_refl _) _
    have hF := (H26.out.junk hbb).add (b := Wf.heap.size) hbA (Nat.le_refl _) (alloc_at Wf _)
    have HF := Lib.hid hF
    clear hbb cG hF hbA H26
    have eu := (HF.out.has (Wf.heap.size, (.cells #[.int .i64 x.1, .int .i64 x.2] 28)) (.head _)).1
    have fu0 : (Wf.alloc (.cells #[.int .i64 x.1, .int .i64 x.2] 28)).cell? ⟨Wf.heap.size, 0, none⟩ = some (.int .i64 x.1) := (cell_at eu).trans rfl
    have fu1 : (Wf.alloc (.cells #[.int .i64 x.1, .int .i64 x.2] 28)).cell? ⟨Wf.heap.size, 1, none⟩ = some (.int .i64 x.2) := (cell_at eu).trans rfl
    clear eu
    have et := (HF.out.has (bt, (.cells #[.int .i64 x.1, .int .i64 x.2] 28)) (.tail _ (.head _))).1
    have ft0 : (Wf.alloc (.cells #[.int .i64 x.1, .int .i64 x.2] 28)).cell? ⟨bt, 0, none⟩ = some (.int .i64 x.1) := (cell_at et).trans rfl
    have ft1 : (Wf.alloc (.cells #[.int .i64 x.1, .int .i64 x.2] 28)).cell? ⟨bt, 1, none⟩ = some (.int .i64 x.2) := (cell_at et).trans rfl
    clear et
    have es := (HF.out.has (bs, (.cells #[.int .i64 z.1, .int .i64 z.2] 28)) (.tail _ (.tail _ (.head _)))).1
    have fs0 : (Wf.alloc (.cells #[.int .i64 x.1, .int .i64 x.2] 28)).cell? ⟨bs, 0, none⟩ = some (.int .i64 z.1) := (cell_at es).trans rfl
    have fs1 : (Wf.alloc (.cells #[.int .i64 x.1, .int .i64 x.2] 28)).cell? ⟨bs, 1, none⟩ = some (.int .i64 z.2) := (cell_at es).trans rfl
    clear es
    have er := (HF.out.has (br, (.cells #[.int .i64 x.1, .int .i64 x.2] 28)) (.tail _ (.tail _ (.tail _ (.head _))))).1
    have fr0 : (Wf.alloc (.cells #[.int .i64 x.1, .int .i64 x.2] 28)).cell? ⟨br, 0, none⟩ = some (.int .i64 x.1) := (cell_at er).trans rfl
    have fr1 : (Wf.alloc (.cells #[.int .i64 x.1, .int .i64 x.2] 28)).cell? ⟨br, 1, none⟩ = some (.int .i64 x.2) := (cell_at er).trans rfl
    clear er
    have eq := (HF.out.has (bq, (.cells #[.int .i64 y.1, .int .i64 y.2] 28)) (.tail _ (.tail _ (.tail _ (.tail _ (.head _)))))).1
    have fq0 : (Wf.alloc (.cells #[.int .i64 x.1, .int .i64 x.2] 28)).cell? ⟨bq, 0, none⟩ = some (.int .i64 y.1) := (cell_at eq).trans rfl
    have fq1 : (Wf.alloc (.cells #[.int .i64 x.1, .int .i64 x.2] 28)).cell? ⟨bq, 1, none⟩ = some (.int .i64 y.2) := (cell_at eq).trans rfl
    clear eq
    have ep := (HF.out.has (bp, (.cells #[.int .i64 x.1, .int .i64 x.2] 28)) (.tail _ (.tail _ (.tail _ (.tail _ (.tail _ (.head _))))))).1
    have fp0 : (Wf.alloc (.cells #[.int .i64 x.1, .int .i64 x.2] 28)).cell? ⟨bp, 0, none⟩ = some (.int .i64 x.1) := (cell_at ep).trans rfl
    have fp1 : (Wf.alloc (.cells #[.int .i64 x.1, .int .i64 x.2] 28)).cell? ⟨bp, 1, none⟩ = some (.int .i64 x.2) := (cell_at ep).trans rfl
    clear ep
    obtain ⟨zx, zy, zz⟩ := HX.out _ HF.out.below
    have zx0 := (cell_at (i := 0) zx).trans rfl
    have zx1 := (cell_at (i := 1) zx).trans rfl
    have zy0 := (cell_at (i := 0) zy).trans rfl
    have zy1 := (cell_at (i := 1) zy).trans rfl
    have zz0 := (cell_at (i := 0) zz).trans rfl
    have zz1 := (cell_at (i := 1) zz).trans rfl
    clear zx zy zz
    go_wp2_with fail
    generalize Wf.alloc (.cells #[.int .i64 x.1, .int .i64 x.2] 28) = Wg at *
    have cS := scope_ok HF.out.vars
    rw [ls11_scope n a b x y z] at cS
    refine cS.mono ?_
    rintro e Wh ⟨rfl, rfl⟩
    clear cS
    go_wp2_with fail
    have cI := islocal_ok HF.out.vars n HN.out.2.1 b HN.out.2.2.2.2.1 HN.out.2.2.2.2.2
    rw [ls11_b n a b x y z] at cI
    refine cI.mono ?_
    rintro e Wi ⟨rfl, hbb⟩
    have HI := Lib.hid (HF.out.junk hbb)
    clear hbb cI HF
    go_wp2_with fail
    refine (locals_none HI.out.vars a HN.out.2.2.1 HN.out.2.2.2.1 (fun j => ls11_a n a b x y z HN.out.2.2.1 hne j)).mono ?_
    rintro e Wj ⟨rfl, hbb⟩
    have HJ := Lib.hid (HI.out.junk hbb)
    clear hbb HI
    go_wp2
    go_ret
    exact ⟨rfl, H0.out.trans (HJ.out.below.mono H0.out.size)⟩
end Go.Proofs.Ytgkblfegjmeolaa
