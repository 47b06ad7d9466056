/- The contract of the read laws' lives. Conditions: unicode/utf8's two tables; strconv.ErrRange holds an error, or nil. -/
import Derived.Test.YtbbopdkbokbafaaGreatDoorRdPlain
import Derived.Deep.RegionHeld3
namespace Go.Proofs.YtbbopdkbokbafaaGreatDoor
open Go.RowKit Go.Lib
def liveL : List Int := [40, 97, 32, 46, 32, 98, 41]
def liveS : ByteArray := ⟨#[40, 97, 32, 46, 32, 98, 41]⟩
theorem live_runes : runesD liveS.data.toList = liveL := by decide +kernel
theorem live_valid : validD liveS.data.toList = true := by decide +kernel
def livesB : Bool := match readO liveL (Hp.empty 9) tbN 0 with
  | .ok x s' => s'.pos == 7 && (decide ((s'.h.car x) = ((1, 62), 0))) && (decide ((s'.h.cdr x) = ((1, 63), 0)))
  | _ => false
theorem lives_eval : livesB = true := by decide +kernel
theorem lives_found : ∃ x s', readO liveL (Hp.empty 9) tbN 0 = .ok x s' ∧ s'.pos = 7 ∧ s'.h.car x = ((1, 62), 0) ∧ s'.h.cdr x = ((1, 63), 0) := by
  have h := lives_eval
  unfold livesB at h
  cases hr : readO liveL (Hp.empty 9) tbN 0 with
  | ok x s' =>
    rw [hr] at h
    simp only [Bool.and_eq_true, beq_iff_eq, decide_eq_true_eq] at h
    exact ⟨x, s', rfl, h.1.1, h.1.2, h.2⟩
  | bad er a s' => rw [hr] at h; cases h
  | lost => rw [hr] at h; cases h
theorem ht_car {w0 w : World} {hb tb : Nat} {F : Nat → Nat} {h : Hp} {t : Tb} (H : HT w0 w hb tb F h t) (x : Wd) : Calls Tryz.prog 18 #[hptr hb, wv x] w fun e w' => e = .returned (.tuple #[wv (h.car x).1, .int .i64 (h.car x).2]) ∧ Below w.heap.size w w' := by
  obtain ⟨Gh, Gt, h1, _⟩ := H.lies
  exact car_any h1 x
theorem ht_cdr {w0 w : World} {hb tb : Nat} {F : Nat → Nat} {h : Hp} {t : Tb} (H : HT w0 w hb tb F h t) (x : Wd) : Calls Tryz.prog 59 #[hptr hb, wv x] w fun e w' => e = .returned (.tuple #[wv (h.cdr x).1, .int .i64 (h.cdr x).2]) ∧ Below w.heap.size w w' := by
  obtain ⟨Gh, Gt, h1, _⟩ := H.lies
  exact cdr_any h1 x
set_option maxHeartbeats 2000000 in
theorem rlives_any (w : World) (hT : Tabs w) (hE : Errs w) : Calls Tryz.prog 15 #[] w fun e w' => e = .returned (.bool true) ∧ Below w.heap.size w w' := by
  have TE := Lib.hid (And.intro hT hE)
  clear hT hE
  go_enter Tryz.func15, Tryz.ntmps15
  go_wp2_with fail
  refine (lfresh_any 9 w (by decide) (by decide)).mono ?_
  rintro e W1 ⟨hb, tb, F, rfl, hb1, h1⟩
  have H1 := Lib.hid (And.intro hb1 h1)
  clear hb1 h1
  go_wp2_with fail
  have cR := read_plain H1.out.2 TE.out.1 TE.out.2 liveS (by decide) live_valid live_runes (by decide) 0 (by decide)
  obtain ⟨x, s', hr, hp, ha, hd⟩ := lives_found
  rw [hr] at cR
  refine cR.mono ?_
  rintro e W2 ⟨rfl, hw⟩
  rw [hp]
  obtain ⟨F2, h2, _⟩ := hw.ht
  have H2 := Lib.hid h2
  have c1 := fun W hW => ht_car (w0 := w) (w := W) (h2.junk hW) x
  have c2 := fun W hW => ht_cdr (w0 := w) (w := W) (h2.junk hW) x
  rw [ha] at c1
  rw [hd] at c2
  have C := Lib.hid (And.intro c1 c2)
  clear hr hp ha hd cR hw h2 c1 c2
  go_wp2_with fail
  refine (C.out.1 _ (((Below.refl _ _).alloc (Nat.le_refl _) _).alloc (by simp) _)).mono ?_
  rintro e W3 ⟨rfl, hb3⟩
  have B3 : Below W2.heap.size W2 W3 := (((Below.refl W2.heap.size W2).alloc (Nat.le_refl _) _).alloc (by simp) _).trans (hb3.mono (by simp; omega))
  have kx : W3.heap[W2.heap.size]? = some (.cells #[.int .i64 x.1, .int .i64 x.2] 28 (0, 0)) := (hb3.block _ (by simp; omega)).trans ((Below.heap_alloc _ _ _ (by simp)).trans (alloc_at W2 _))
  have kf : W3.heap[W2.heap.size + 1]? = some (.cells #[.int .i64 0, .int .i64 0] 31 (0, 0)) := (hb3.block _ (by simp)).trans (by simpa using alloc_at (W2.alloc (.cells #[.int .i64 x.1, .int .i64 x.2] 28)) (.cells #[.int .i64 0, .int .i64 0] 31))
  clear hb3
  have H3 := Lib.hid (And.intro B3 (And.intro kx kf))
  have x0 : W3.cell? ⟨W2.heap.size, 0, none⟩ = some (.int .i64 x.1) := cell_at kx
  have x1 : W3.cell? ⟨W2.heap.size, 1, none⟩ = some (.int .i64 x.2) := cell_at kx
  have zx := lt_at kx
  clear kx kf B3
  go_wp2_with fail
  have B4 : Below W2.heap.size W2 (W3.alloc (.cells #[.int .i64 1, .int .i64 62] 28)) := H3.out.1.alloc H3.out.1.size _
  have k4 := alloc_at W3 (.cells #[.int .i64 1, .int .i64 62] 28)
  have kf4 := (Below.heap_alloc W3 (.cells #[.int .i64 1, .int .i64 62] 28) (W2.heap.size + 1) (lt_at H3.out.2.2)).trans H3.out.2.2
  generalize W3.alloc (.cells #[.int .i64 1, .int .i64 62] 28) = W4 at *
  generalize W3.heap.size = b6 at *
  have H4 := Lib.hid (And.intro B4 (And.intro k4 kf4))
  clear B4 k4 kf4 H3 x0 x1 zx
  refine (C.out.2 _ H4.out.1).mono ?_
  rintro e W5 ⟨rfl, hb5⟩
  have B5 := H4.out.1.trans (hb5.mono H4.out.1.size)
  have k5 := (hb5.block _ (lt_at H4.out.2.1)).trans H4.out.2.1
  have kf5 := (hb5.block _ (lt_at H4.out.2.2)).trans H4.out.2.2
  have H5 := Lib.hid (And.intro B5 (And.intro k5 kf5))
  clear hb5 B5 k5 kf5 H4
  go_wp2_with fail
  have B6 : Below W2.heap.size W2 (W5.alloc (.cells #[.int .i64 1, .int .i64 63] 28)) := H5.out.1.alloc H5.out.1.size _
  have k8 := alloc_at W5 (.cells #[.int .i64 1, .int .i64 63] 28)
  have k6 := (Below.heap_alloc W5 (.cells #[.int .i64 1, .int .i64 63] 28) b6 (lt_at H5.out.2.1)).trans H5.out.2.1
  have kf6 := (Below.heap_alloc W5 (.cells #[.int .i64 1, .int .i64 63] 28) (W2.heap.size + 1) (lt_at H5.out.2.2)).trans H5.out.2.2
  generalize W5.alloc (.cells #[.int .i64 1, .int .i64 63] 28) = W6 at *
  generalize W5.heap.size = b8 at *
  have d0 : W6.cell? ⟨W2.heap.size + 1, 0, none⟩ = some (.int .i64 0) := cell_at kf6
  have d1 : W6.cell? ⟨W2.heap.size + 1, 1, none⟩ = some (.int .i64 0) := cell_at kf6
  have d2 : W6.cell? ⟨b6, 0, none⟩ = some (.int .i64 1) := cell_at k6
  have d3 : W6.cell? ⟨b6, 1, none⟩ = some (.int .i64 62) := cell_at k6
  have d4 : W6.cell? ⟨b8, 0, none⟩ = some (.int .i64 1) := cell_at k8
  have d5 : W6.cell? ⟨b8, 1, none⟩ = some (.int .i64 63) := cell_at k8
  have zf := lt_at kf6
  have z6 := lt_at k6
  have z8 := lt_at k8
  have H6 := Lib.hid B6
  clear B6 k8 k6 kf6 H5
  generalize W2.heap.size + 1 = bf at *
  have HS := Lib.hid (fun X (hX : Below W6.heap.size W6 X) => (⟨(hX.cell (p := ⟨bf, 0, none⟩) zf).trans d0, (hX.cell (p := ⟨bf, 1, none⟩) zf).trans d1, (hX.cell (p := ⟨b6, 0, none⟩) z6).trans d2, (hX.cell (p := ⟨b6, 1, none⟩) z6).trans d3, (hX.cell (p := ⟨b8, 0, none⟩) z8).trans d4, (hX.cell (p := ⟨b8, 1, none⟩) z8).trans d5⟩ : X.cell? ⟨bf, 0, none⟩ = some (.int .i64 0) ∧ X.cell? ⟨bf, 1, none⟩ = some (.int .i64 0) ∧ X.cell? ⟨b6, 0, none⟩ = some (.int .i64 1) ∧ X.cell? ⟨b6, 1, none⟩ = some (.int .i64 62) ∧ X.cell? ⟨b8, 0, none⟩ = some (.int .i64 1) ∧ X.cell? ⟨b8, 1, none⟩ = some (.int .i64 63)))
  have HK := Lib.hid (show Below W6.heap.size W6 W6.drew from (Below.refl _ _).drew)
  go_region_held3 (fun X => X.cell? ⟨bf, 0, none⟩ = some (.int .i64 0) ∧ X.cell? ⟨bf, 1, none⟩ = some (.int .i64 0) ∧ X.cell? ⟨b6, 0, none⟩ = some (.int .i64 1) ∧ X.cell? ⟨b6, 1, none⟩ = some (.int .i64 62) ∧ X.cell? ⟨b8, 0, none⟩ = some (.int .i64 1) ∧ X.cell? ⟨b8, 1, none⟩ = some (.int .i64 63))
    (with_reducible exact HS.out _ HK.out)
    ((go_at_call 20; (with_reducible refine (sym_any _ _).mono ?_); rintro e wq ⟨rfl, hb2⟩; have HK2 := Lib.hid (HK.out.trans (hb2.mono HK.out.size)); clear HK hb2; have HK := HK2; clear HK2))
  go_wp2
  go_ret
  exact ⟨rfl, H2.out.below.trans ((H6.out.trans (HK.out.mono H6.out.size)).mono H2.out.below.size)⟩
end Go.Proofs.YtbbopdkbokbafaaGreatDoor
