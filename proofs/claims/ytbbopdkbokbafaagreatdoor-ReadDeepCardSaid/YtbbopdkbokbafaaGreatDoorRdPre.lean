/- The contract of the reader's prefixed. -/
import Derived.Test.YtbbopdkbokbafaaGreatDoorRdLift
import Derived.Deep.RegionWith
namespace Go.Proofs.YtbbopdkbokbafaaGreatDoor
open Go.RowKit Go.Lib
section
variable {w0 w : World} {r : Rd} {F : Nat → Nat} {s : Rs} {o : Out Wd}
theorem prefixed_deep (h : RdAt w0 w r F s) (k : Nat) (name : Int) (ho : s.opn = 200) :
    Calls Tryz.prog 220 #[rp r, .int .i64 k, .int .i64 name] w fun e w' => e = Panics 12 s.pos ∧ BadR w0 w w' r F s := by
  have H := Lib.hid h
  have cE := enter_deep (h.junk (wz_below w)) ho k
  clear h
  go_enter Tryz.func220, Tryz.ntmps220
  go_wp2_with fail
  refine cE.mono ?_
  rintro e W ⟨rfl, hb⟩
  have HB := Lib.hid hb
  clear hb
  go_wp2
  exact ⟨rfl, rfl, (((WentR.of_below H.out (wz_below w)).junk HB.out).bad)⟩
theorem chainO_some (st : Int) : ∀ (l : List Wd) (s : Rs) (x : Wd), chainO st s l x ≠ .lost
  | [], s, x => by intro e; cases e
  | a :: r, s, x => by
    unfold chainO
    cases hm : makeO s (.pair a x) st with
    | lost => unfold makeO at hm; split at hm <;> cases hm
    | bad er p s' => intro e; cases e
    | ok y s' => exact chainO_some st r s' y
theorem two_cells {W : World} {b : Nat} {O : Nat → Prop} {x y : Wd} {T : TypeId} (hb : W.heap[b]? = some (.cells #[.int .i64 x.1, .int .i64 x.2, .int .i64 y.1, .int .i64 y.2] T (0, 0))) (hO : O b) :
    ∀ (i : Nat) z, [x, y][i]? = some z → ∃ gb off, some (⟨b, 0, none⟩ : Addr) = some ⟨gb, off, none⟩ ∧ O gb ∧ W.cell? ⟨gb, off + i * 2, none⟩ = some (.int .i64 z.1) ∧ W.cell? ⟨gb, off + i * 2 + 1, none⟩ = some (.int .i64 z.2) := by
  intro i z hz
  refine ⟨b, 0, rfl, hO, ?_, ?_⟩
  · rw [cell_at hb]
    match i, hz with
    | 0, hz => cases hz; rfl
    | 1, hz => cases hz; rfl
  · rw [cell_at hb]
    match i, hz with
    | 0, hz => cases hz; rfl
    | 1, hz => cases hz; rfl
theorem chain_two (H : RdAt w0 w r F s) {O : Nat → Prop} {s1 : Rs} {W4 Wa Wb : World} (g4 : GoR w0 w W4 O r F s1) (ha : Below W4.heap.size W4 Wa) {a b : Wd} (hb : Below (Wa.alloc (.cells #[.int .i64 a.1, .int .i64 a.2, .int .i64 b.1, .int .i64 b.2] 28)).heap.size (Wa.alloc (.cells #[.int .i64 a.1, .int .i64 a.2, .int .i64 b.1, .int .i64 b.2] 28)) Wb) (last : Wd) (st : Int) :
    Calls Tryz.prog 218 #[rp r, .int .i64 st, .slice (some ⟨Wa.heap.size, 0, none⟩) 2 2, wv last] Wb fun e w' => DoesG w0 w Wb (fun k => O k ∨ k = Wa.heap.size) r F (chainO st s1 [b, a] last) e w' := by
  have gA := ((g4.junk ha).add ((Below.refl Wa.heap.size Wa).alloc (Nat.le_refl _) (.cells #[.int .i64 a.1, .int .i64 a.2, .int .i64 b.1, .int .i64 b.2] 28)) (Nat.le_refl _) (by simp)).junk hb
  have kA := (hb.block Wa.heap.size (by simp)).trans (alloc_at Wa (.cells #[.int .i64 a.1, .int .i64 a.2, .int .i64 b.1, .int .i64 b.2] 28))
  exact chain_go H gA (v := .slice (some ⟨Wa.heap.size, 0, none⟩) 2 2) (l := [a, b]) (by simp) last st ⟨_, _, rfl, two_cells kA (.inr rfl)⟩
theorem chain_two' (H : RdAt w0 w r F s) {O : Nat → Prop} {s1 : Rs} {W4 Wa Wb : World} (g4 : GoR w0 w W4 O r F s1) (ha : Below W4.heap.size W4 Wa) {a b : Wd} (hb : Below Wa.heap.size Wa Wb) (last : Wd) (st : Int) :
    Calls Tryz.prog 218 #[rp r, .int .i64 st, .slice (some ⟨Wb.heap.size, 0, none⟩) 2 2, wv last] (Wb.alloc (.cells #[.int .i64 a.1, .int .i64 a.2, .int .i64 b.1, .int .i64 b.2] 28)) fun e w' => DoesG w0 w (Wb.alloc (.cells #[.int .i64 a.1, .int .i64 a.2, .int .i64 b.1, .int .i64 b.2] 28)) (fun k => O k ∨ k = Wb.heap.size) r F (chainO st s1 [b, a] last) e w' := by
  have gA := ((g4.junk ha).junk hb).add ((Below.refl Wb.heap.size Wb).alloc (Nat.le_refl _) (.cells #[.int .i64 a.1, .int .i64 a.2, .int .i64 b.1, .int .i64 b.2] 28)) (Nat.le_refl _) (by simp)
  have kA := alloc_at Wb (.cells #[.int .i64 a.1, .int .i64 a.2, .int .i64 b.1, .int .i64 b.2] 28)
  exact chain_go H gA (v := .slice (some ⟨Wb.heap.size, 0, none⟩) 2 2) (l := [a, b]) (by simp) last st ⟨_, _, rfl, two_cells kA (.inr rfl)⟩
set_option maxHeartbeats 2000000 in
theorem prefixed_any (h : RdAt w0 w r F s) (n k : Nat) (name : Int) (hk : s.pos + k ≤ r.L.length) (hk0 : 0 < k) (hF : FormOk w0 r n (s.pos + 1)) (ho : s.opn ≠ 200) (hl : formO r.L n { s with opn := s.opn + 1, pos := s.pos + k } ≠ .lost) (hop : ∀ x s', formO r.L n { s with opn := s.opn + 1, pos := s.pos + k } = .ok x s' → s'.opn = s.opn + 1) :
    Calls Tryz.prog 220 #[rp r, .int .i64 k, .int .i64 name] w fun e w' => Does w0 w r F (prefixedO (formO r.L n) k name s) e w' := by
  have H := Lib.hid h
  have g0 : GoR w0 w (wz w) (fun k => k = w.heap.size) r F s := GoR.of h (wz_below w) (by rintro k rfl; simp)
  have cE := mv_go h g0 fun F1 h1 => enter_ok h1 ho k hk
  have cF := fun W (g : GoR w0 w W (fun k => k = w.heap.size) r F { s with opn := s.opn + 1, pos := s.pos + k }) => does_go h g fun F1 h1 => hF F1 _ W h1 (show s.pos + 1 ≤ s.pos + k by omega) hl
  unfold prefixedO
  rw [if_neg ho]
  generalize formO r.L n { s with opn := s.opn + 1, pos := s.pos + k } = g at *
  have HF := Lib.hid cF
  have HO := Lib.hid hop
  have HL := Lib.hid hl
  clear h hF hl hk cF hop g0 hk0
  cases g with
  | lost => exact absurd rfl HL.out
  | bad er a s' =>
    go_enter Tryz.func220, Tryz.ntmps220
    go_wp2_with fail
    refine cE.mono ?_
    rintro e W ⟨rfl, hm⟩
    have HM := Lib.hid hm
    clear hm cE
    go_wp2_with fail
    refine (HF.out _ HM.out.go).mono ?_
    rintro e W2 ⟨rfl, hw⟩
    have HW := Lib.hid hw
    clear hw
    go_wp2
    exact ⟨rfl, rfl, HW.out⟩
  | ok x s' =>
    have hop1 : s'.opn = s.opn + 1 := HO.out x s' rfl
    simp only
    generalize hch : chainO s.pos { s' with opn := s'.opn - 1 } [x, (1, name)] (1, 0) = o2
    have HCH := Lib.hid hch
    clear hch
    cases o2 with
    | lost => exact absurd HCH.out (chainO_some _ _ _ _)
    | bad er a s2 =>
      go_enter Tryz.func220, Tryz.ntmps220
      go_wp2_with fail
      refine cE.mono ?_
      rintro e W ⟨rfl, hm⟩
      have HM := Lib.hid hm
      clear hm cE
      go_wp2_with fail
      refine (HF.out _ HM.out.go).mono ?_
      rintro e W2 ⟨rfl, hw⟩
      have g3 := hw.go.add ((Below.refl _ _).alloc (Nat.le_refl _) (.cells #[.int .i64 x.1, .int .i64 x.2] 28)) (Nat.le_refl _) (by simp)
      have cL := mv_go H.out g3 fun F1 h1 => leave_any h1 0 (by have := h1.pos; omega) (by omega)
      have p0 : (W2.alloc (.cells #[.int .i64 x.1, .int .i64 x.2] 28)).heap[w.heap.size]? = some (wob (0, 0)) := by
        rw [Below.heap_alloc _ _ _ (by obtain ⟨_, _, _, _, q⟩ := hw.go; exact (q _ rfl).2.1), hw.block _ rfl, HM.out.block _ rfl]
        exact wz_at w
      have p1 : (W2.alloc (.cells #[.int .i64 x.1, .int .i64 x.2] 28)).heap[W2.heap.size]? = some (wob x) := alloc_at W2 _
      have hlt : w.heap.size < W2.heap.size := by obtain ⟨_, _, _, _, q⟩ := hw.go; exact (q _ rfl).2.1
      have HP := Lib.hid (And.intro p0 p1)
      clear p0 p1 g3 hw HM
      go_wp2_with fail
      refine cL.mono ?_
      rintro e W4 ⟨rfl, hs4⟩
      have k0 : W4.heap[w.heap.size]? = some (wob (0, 0)) := (hs4.block _ (.inl rfl)).trans HP.out.1
      have k1 : W4.heap[W2.heap.size]? = some (wob x) := (hs4.block _ (.inr rfl)).trans HP.out.2
      have x0 : W4.cell? ⟨W2.heap.size, 0, none⟩ = some (.int .i64 x.1) := cell_at k1
      have x1 : W4.cell? ⟨W2.heap.size, 1, none⟩ = some (.int .i64 x.2) := cell_at k1
      have H4 := Lib.hid (And.intro hs4.go (And.intro k0 k1))
      have z4 : W2.heap.size < W4.heap.size := lt_at k1
      clear hs4 k0 k1 cL HP
      go_wp2_with fail
      have cS := fun W => symbol_any name W
      have cS0 := fun W => symbol_any 0 W
      go_region_with (first
        | (go_at_call 214; (with_reducible refine (symbol_any name _).mono ?_); rintro e Wa ⟨rfl, ha⟩; have y0 : Wa.cell? ⟨W2.heap.size, 0, none⟩ = some (.int .i64 x.1) := (ha.cell (p := ⟨W2.heap.size, 0, none⟩) z4).trans x0; have y1 : Wa.cell? ⟨W2.heap.size, 1, none⟩ = some (.int .i64 x.2) := (ha.cell (p := ⟨W2.heap.size, 1, none⟩) z4).trans x1; have HA : Hid (Below W4.heap.size W4 Wa) := Lib.hid ((Below.drew (Below.refl W4.heap.size W4)).trans ha); have za : W2.heap.size < Wa.heap.size := Nat.lt_of_lt_of_le z4 ha.size; clear ha)
        | (go_at_call 214; (with_reducible refine (symbol_any 0 _).mono ?_); rintro e Wb ⟨rfl, hb⟩; have v0 : Wb.cell? ⟨W2.heap.size, 0, none⟩ = some (.int .i64 x.1) := (hb.cell (p := ⟨W2.heap.size, 0, none⟩) (by first | exact za | (simp; omega))).trans (by first | exact y0 | exact (World.cell?_of_block (w := Wa) (Below.heap_alloc _ _ _ za)).trans y0); have v1 : Wb.cell? ⟨W2.heap.size, 1, none⟩ = some (.int .i64 x.2) := (hb.cell (p := ⟨W2.heap.size, 1, none⟩) (by first | exact za | (simp; omega))).trans (by first | exact y1 | exact (World.cell?_of_block (w := Wa) (Below.heap_alloc _ _ _ za)).trans y1); have HB := Lib.hid hb; clear hb)
        | (go_at_call 218; first
            | (have CC := chain_two (s1 := { s' with opn := s'.opn - 1 }) H.out H4.out.1 HA.out (a := (1, name)) (b := x) HB.out (1, 0) s.pos
               rw [HCH.out] at CC
               refine CC.mono ?_
               intro e W6 hD
               have hor : (e = .returned (wv (0, 0)) ∧ False) ∨ (e = Panics er a ∧ BadR w0 w W6 r F s2) := .inr hD
               rcases hor with ⟨rfl, hf⟩ | ⟨rfl, hb2⟩
               rotate_left
               · exact ⟨rfl, rfl, hb2⟩
               have e0 : W6.frozen? ⟨w.heap.size, 0, none⟩ = false := hf.elim
               have e1 : W6.frozen? ⟨w.heap.size, 1, none⟩ = false := hf.elim
               have d0 : W6.cell? ⟨w.heap.size, 0, none⟩ = some (.int .i64 0) := hf.elim
               have d1 : W6.cell? ⟨w.heap.size, 1, none⟩ = some (.int .i64 0) := hf.elim
               have HFF := Lib.hid hf
               clear hf hD)
            | (have CC := chain_two' (s1 := { s' with opn := s'.opn - 1 }) H.out H4.out.1 HA.out (a := (1, name)) (b := x) HB.out (1, 0) s.pos
               rw [HCH.out] at CC
               refine CC.mono ?_
               intro e W6 hD
               have hor : (e = .returned (wv (0, 0)) ∧ False) ∨ (e = Panics er a ∧ BadR w0 w W6 r F s2) := .inr hD
               rcases hor with ⟨rfl, hf⟩ | ⟨rfl, hb2⟩
               rotate_left
               · exact ⟨rfl, rfl, hb2⟩
               have e0 : W6.frozen? ⟨w.heap.size, 0, none⟩ = false := hf.elim
               have e1 : W6.frozen? ⟨w.heap.size, 1, none⟩ = false := hf.elim
               have d0 : W6.cell? ⟨w.heap.size, 0, none⟩ = some (.int .i64 0) := hf.elim
               have d1 : W6.cell? ⟨w.heap.size, 1, none⟩ = some (.int .i64 0) := hf.elim
               have HFF := Lib.hid hf
               clear hf hD)))
      all_goals exact HFF.out.elim
    | ok y s2 =>
      go_enter Tryz.func220, Tryz.ntmps220
      go_wp2_with fail
      refine cE.mono ?_
      rintro e W ⟨rfl, hm⟩
      have HM := Lib.hid hm
      clear hm cE
      go_wp2_with fail
      refine (HF.out _ HM.out.go).mono ?_
      rintro e W2 ⟨rfl, hw⟩
      have g3 := hw.go.add ((Below.refl _ _).alloc (Nat.le_refl _) (.cells #[.int .i64 x.1, .int .i64 x.2] 28)) (Nat.le_refl _) (by simp)
      have cL := mv_go H.out g3 fun F1 h1 => leave_any h1 0 (by have := h1.pos; omega) (by omega)
      have p0 : (W2.alloc (.cells #[.int .i64 x.1, .int .i64 x.2] 28)).heap[w.heap.size]? = some (wob (0, 0)) := by
        rw [Below.heap_alloc _ _ _ (by obtain ⟨_, _, _, _, q⟩ := hw.go; exact (q _ rfl).2.1), hw.block _ rfl, HM.out.block _ rfl]
        exact wz_at w
      have p1 : (W2.alloc (.cells #[.int .i64 x.1, .int .i64 x.2] 28)).heap[W2.heap.size]? = some (wob x) := alloc_at W2 _
      have hlt : w.heap.size < W2.heap.size := by obtain ⟨_, _, _, _, q⟩ := hw.go; exact (q _ rfl).2.1
      have HP := Lib.hid (And.intro p0 p1)
      clear p0 p1 g3 hw HM
      go_wp2_with fail
      refine cL.mono ?_
      rintro e W4 ⟨rfl, hs4⟩
      have k0 : W4.heap[w.heap.size]? = some (wob (0, 0)) := (hs4.block _ (.inl rfl)).trans HP.out.1
      have k1 : W4.heap[W2.heap.size]? = some (wob x) := (hs4.block _ (.inr rfl)).trans HP.out.2
      have x0 : W4.cell? ⟨W2.heap.size, 0, none⟩ = some (.int .i64 x.1) := cell_at k1
      have x1 : W4.cell? ⟨W2.heap.size, 1, none⟩ = some (.int .i64 x.2) := cell_at k1
      have H4 := Lib.hid (And.intro hs4.go (And.intro k0 k1))
      have z4 : W2.heap.size < W4.heap.size := lt_at k1
      clear hs4 k0 k1 cL HP
      go_wp2_with fail
      have cS := fun W => symbol_any name W
      have cS0 := fun W => symbol_any 0 W
      go_region_with (first
        | (go_at_call 214; (with_reducible refine (symbol_any name _).mono ?_); rintro e Wa ⟨rfl, ha⟩; have y0 : Wa.cell? ⟨W2.heap.size, 0, none⟩ = some (.int .i64 x.1) := (ha.cell (p := ⟨W2.heap.size, 0, none⟩) z4).trans x0; have y1 : Wa.cell? ⟨W2.heap.size, 1, none⟩ = some (.int .i64 x.2) := (ha.cell (p := ⟨W2.heap.size, 1, none⟩) z4).trans x1; have HA : Hid (Below W4.heap.size W4 Wa) := Lib.hid ((Below.drew (Below.refl W4.heap.size W4)).trans ha); have za : W2.heap.size < Wa.heap.size := Nat.lt_of_lt_of_le z4 ha.size; clear ha)
        | (go_at_call 214; (with_reducible refine (symbol_any 0 _).mono ?_); rintro e Wb ⟨rfl, hb⟩; have v0 : Wb.cell? ⟨W2.heap.size, 0, none⟩ = some (.int .i64 x.1) := (hb.cell (p := ⟨W2.heap.size, 0, none⟩) (by first | exact za | (simp; omega))).trans (by first | exact y0 | exact (World.cell?_of_block (w := Wa) (Below.heap_alloc _ _ _ za)).trans y0); have v1 : Wb.cell? ⟨W2.heap.size, 1, none⟩ = some (.int .i64 x.2) := (hb.cell (p := ⟨W2.heap.size, 1, none⟩) (by first | exact za | (simp; omega))).trans (by first | exact y1 | exact (World.cell?_of_block (w := Wa) (Below.heap_alloc _ _ _ za)).trans y1); have HB := Lib.hid hb; clear hb)
        | (go_at_call 218; first
            | (have CC := chain_two (s1 := { s' with opn := s'.opn - 1 }) H.out H4.out.1 HA.out (a := (1, name)) (b := x) HB.out (1, 0) s.pos
               rw [HCH.out] at CC
               refine CC.mono ?_
               rintro e W6 ⟨rfl, hD⟩
               have zw : w.heap.size < W4.heap.size := lt_at H4.out.2.1
               have zw2 : w.heap.size < Wa.heap.size := Nat.lt_of_lt_of_le zw HA.out.size
               have k6 : W6.heap[w.heap.size]? = some (wob (0, 0)) := (hD.block _ (.inl (.inl rfl))).trans ((HB.out.block _ (by simp; omega)).trans ((Below.heap_alloc _ _ _ zw2).trans ((HA.out.block _ zw).trans H4.out.2.1)))
               have d0 : W6.cell? ⟨w.heap.size, 0, none⟩ = some (.int .i64 0) := cell_at k6
               have d1 : W6.cell? ⟨w.heap.size, 1, none⟩ = some (.int .i64 0) := cell_at k6
               have e0 : W6.frozen? ⟨w.heap.size, 0, none⟩ = false := frozen_at k6
               have e1 : W6.frozen? ⟨w.heap.size, 1, none⟩ = false := frozen_at k6
               have HD := Lib.hid (hD.go.mono (O' := fun k => k = w.heap.size) fun k h => .inl (.inl h))
               clear CC hD k6 zw zw2)
            | (have CC := chain_two' (s1 := { s' with opn := s'.opn - 1 }) H.out H4.out.1 HA.out (a := (1, name)) (b := x) HB.out (1, 0) s.pos
               rw [HCH.out] at CC
               refine CC.mono ?_
               rintro e W6 ⟨rfl, hD⟩
               have zw : w.heap.size < W4.heap.size := lt_at H4.out.2.1
               have zw2 : w.heap.size < Wa.heap.size := Nat.lt_of_lt_of_le zw HA.out.size
               have k6 : W6.heap[w.heap.size]? = some (wob (0, 0)) := (hD.block _ (.inl (.inl rfl))).trans ((Below.heap_alloc _ _ _ (Nat.lt_of_lt_of_le zw2 HB.out.size)).trans ((HB.out.block _ zw2).trans ((HA.out.block _ zw).trans H4.out.2.1)))
               have d0 : W6.cell? ⟨w.heap.size, 0, none⟩ = some (.int .i64 0) := cell_at k6
               have d1 : W6.cell? ⟨w.heap.size, 1, none⟩ = some (.int .i64 0) := cell_at k6
               have e0 : W6.frozen? ⟨w.heap.size, 0, none⟩ = false := frozen_at k6
               have e1 : W6.frozen? ⟨w.heap.size, 1, none⟩ = false := frozen_at k6
               have HD := Lib.hid (hD.go.mono (O' := fun k => k = w.heap.size) fun k h => .inl (.inl h))
               clear CC hD k6 zw zw2)))
      all_goals go_wp2
      all_goals
        refine bodyPost_ret (v := wv y) ?_ rfl ⟨rfl, HD.out.fill H.out rfl _ _⟩
        simp [results, Tryz.results220, go_sem, d0, d1]
end
end Go.Proofs.YtbbopdkbokbafaaGreatDoor
