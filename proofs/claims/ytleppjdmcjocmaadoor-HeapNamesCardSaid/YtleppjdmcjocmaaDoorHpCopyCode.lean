/- The contract of copyOfCode: the same code, its bytes and constants in new rows. -/
import Derived.Test.YtleppjdmcjocmaaDoorHpCopyOf
namespace Go.Proofs.YtleppjdmcjocmaaDoor
open Go.RowKit Go.Lib
theorem bcell {W w1 : World} (hb : Below W.heap.size W w1) : (∀ b o, b < W.heap.size → w1.cell? ⟨b, o, none⟩ = W.cell? ⟨b, o, none⟩) ∧ (∀ b o, b < W.heap.size → w1.frozen? ⟨b, o, none⟩ = W.frozen? ⟨b, o, none⟩) :=
  ⟨fun b o h => hb.cell (p := ⟨b, o, none⟩) h, fun b o h => hb.frozen (p := ⟨b, o, none⟩) h⟩
theorem own_slice {w : World} {B e size : Nat} {v : Value} {n : Nat} {xs : List Value} (h : w.ownsRow B e size v n xs) : ∃ a c, v = .slice a n c := by
  rcases h.2 with ⟨h1, h2⟩ | ⟨g, cap, cur, h1, _⟩
  · exact ⟨none, 0, by rw [h1, h2]⟩
  · exact ⟨_, cap, h1⟩
theorem own_keep {w w' : World} {B e size : Nat} {v : Value} {n : Nat} {xs : List Value} (h : w.ownsRow B e size v n xs) (hb : Below w.heap.size w w') : w'.ownsRow B e size v n xs := by
  obtain ⟨h1, h2⟩ := h
  refine ⟨h1, ?_⟩
  rcases h2 with h2 | ⟨g, cap, cur, hv, hg, hh, hr⟩
  · exact .inl h2
  · exact .inr ⟨g, cap, cur, hv, hg, (hb.block g (lt_at hh)).trans hh, hr⟩
theorem own_base {w : World} {B B' e size : Nat} {v : Value} {n : Nat} {xs : List Value} (h : w.ownsRow B e size v n xs) (hB : B' ≤ B) : w.ownsRow B' e size v n xs := by
  obtain ⟨h1, h2⟩ := h
  refine ⟨h1, ?_⟩
  rcases h2 with h2 | ⟨g, cap, cur, hv, hg, hr⟩
  · exact .inl h2
  · exact .inr ⟨g, cap, cur, hv, by omega, hr⟩
set_option maxHeartbeats 1000000 in
theorem copy_code (le mo de : Int) (ab ac : Option Addr) (nb nc cb cc : Nat) (bs cs : List Value) (w : World)
    (cB : ∀ W, Below w.heap.size w W → Calls Tryd.prog 58 #[.slice ab nb cb] W fun e w' => ∃ v', e = .returned v' ∧ w'.ownsRow W.heap.size 5 1 v' nb bs ∧ Below W.heap.size W w')
    (cC : ∀ W, Below w.heap.size w W → Calls Tryd.prog 44 #[.slice ac nc cc] W fun e w' => ∃ v', e = .returned v' ∧ w'.ownsRow W.heap.size 28 2 v' nc cs ∧ Below W.heap.size W w') :
    Calls Tryd.prog 49 #[.agg #[.int .i64 le, .int .i64 mo, .int .i64 de, .slice ab nb cb, .slice ac nc cc]] w fun e w' => ∃ vb vc, e = .returned (.agg #[.int .i64 le, .int .i64 mo, .int .i64 de, vb, vc]) ∧
      w'.ownsRow w.heap.size 5 1 vb nb bs ∧ w'.ownsRow w.heap.size 28 2 vc nc cs ∧ Below w.heap.size w w' := by
  have CB := Lib.hid cB
  have CC := Lib.hid cC
  clear cB cC
  go_enter Tryd.func49, Tryd.ntmps49
  go_wp2
  go_region_with (first
    | (go_at_call 58; refine (CB.out _ ?_).mono ?_; exact (((Below.refl _ _).alloc (Nat.le_refl _) _).alloc (by simp) _).drew; rintro e w1 ⟨vb, rfl, ho1, hb1⟩; obtain ⟨a1, c1, rfl⟩ := own_slice ho1; have HO1 := Lib.hid ho1; clear ho1; have HB1 := Lib.hid hb1; have hz1 : w.heap.size + 1 < w1.heap.size := Nat.lt_of_lt_of_le (by simp [World.drew]) hb1.size; have hz0 : w.heap.size < w1.heap.size := Nat.lt_of_succ_lt hz1; obtain ⟨hc1, hf1⟩ := bcell hb1; clear hb1)
    | (go_at_call 44; refine (CC.out _ ?_).mono ?_; exact ((((Below.refl _ _).alloc (Nat.le_refl _) _).alloc (by simp) _).drew.trans (HB1.out.mono (by simp; omega))); rintro e w2 ⟨vc, rfl, ho2, hb2⟩; obtain ⟨a2, c2, rfl⟩ := own_slice ho2; have HO2 := Lib.hid ho2; clear ho2; have HB2 := Lib.hid hb2; obtain ⟨hc2, hf2⟩ := bcell hb2; clear hb2))
  all_goals
    have o1 := own_base (B' := w.heap.size + 2) (own_keep HO1.out HB2.out) (by simp [World.drew])
    have o2 := own_base (B' := w.heap.size + 2) HO2.out (by omega)
    have hbw : Below w.heap.size w w2 := ((((Below.refl _ _).alloc (Nat.le_refl _) _).alloc (by simp) _).drew.trans (HB1.out.mono (by simp [World.drew]; omega))).trans (HB2.out.mono (by omega))
    have k0 : w2.heap[w.heap.size]? = some (.cells #[.int .i64 le, .int .i64 mo, .int .i64 de, .slice ab nb cb, .slice ac nc cc] 52 (0, 0)) :=
      (HB2.out.block _ hz0).trans ((HB1.out.block _ (by simp [World.drew]; omega)).trans ((Below.heap_alloc _ _ _ (by simp)).trans (alloc_at w _)))
    have k1 : w2.heap[w.heap.size + 1]? = some (.cells #[.int .i64 0, .int .i64 0, .int .i64 0, .slice none 0 0, .slice none 0 0] 52 (0, 0)) :=
      (HB2.out.block _ hz1).trans ((HB1.out.block _ (by simp [World.drew])).trans (by
        have := alloc_at (w.alloc (.cells #[.int .i64 le, .int .i64 mo, .int .i64 de, .slice ab nb cb, .slice ac nc cc] 52)) (.cells #[.int .i64 0, .int .i64 0, .int .i64 0, .slice none 0 0, .slice none 0 0] 52)
        rw [show (w.alloc (.cells #[.int .i64 le, .int .i64 mo, .int .i64 de, .slice ab nb cb, .slice ac nc cc] 52)).heap.size = w.heap.size + 1 from by simp] at this
        exact this))
    have k2 := setCell_at (i := 4) (setCell_at (i := 3) k0 (.slice a1 nb c1)) (.slice a2 nc c2)
    have k3 : ((w2.setCell ⟨w.heap.size, 3, none⟩ (.slice a1 nb c1)).setCell ⟨w.heap.size, 4, none⟩ (.slice a2 nc c2)).heap[w.heap.size + 1]? = _ := (setCell_off _ (by simp)).trans ((setCell_off _ (by simp)).trans k1)
    have o3 := ownsRow_setCell_below (ownsRow_setCell_below o1 (a := ⟨w.heap.size, 3, none⟩) (by simp) (.slice a1 nb c1)) (a := ⟨w.heap.size, 4, none⟩) (by simp) (.slice a2 nc c2)
    have o4 := ownsRow_setCell_below (ownsRow_setCell_below o2 (a := ⟨w.heap.size, 3, none⟩) (by simp) (.slice a1 nb c1)) (a := ⟨w.heap.size, 4, none⟩) (by simp) (.slice a2 nc c2)
    have hb3 := (hbw.setCell (p := ⟨w.heap.size, 3, none⟩) (by simp) (.slice a1 nb c1)).setCell (p := ⟨w.heap.size, 4, none⟩) (by simp) (.slice a2 nc c2)
    generalize (w2.setCell ⟨w.heap.size, 3, none⟩ (.slice a1 nb c1)).setCell ⟨w.heap.size, 4, none⟩ (.slice a2 nc c2) = w3 at k2 k3 o3 o4 hb3 ⊢
    have d0 : w3.cell? ⟨w.heap.size, 0, none⟩ = some (.int .i64 le) := (cell_at k2).trans (by simp)
    have d1 : w3.cell? ⟨w.heap.size, 1, none⟩ = some (.int .i64 mo) := (cell_at k2).trans (by simp)
    have d2 : w3.cell? ⟨w.heap.size, 2, none⟩ = some (.int .i64 de) := (cell_at k2).trans (by simp)
    have d3 : w3.cell? ⟨w.heap.size, 3, none⟩ = some (.slice a1 nb c1) := (cell_at k2).trans (by simp)
    have d4 : w3.cell? ⟨w.heap.size, 4, none⟩ = some (.slice a2 nc c2) := (cell_at k2).trans (by simp)
    have e0 : w3.cell? ⟨w.heap.size + 1, 0, none⟩ = some (.int .i64 0) := cell_at k3
    have e1 : w3.cell? ⟨w.heap.size + 1, 1, none⟩ = some (.int .i64 0) := cell_at k3
    have e2 : w3.cell? ⟨w.heap.size + 1, 2, none⟩ = some (.int .i64 0) := cell_at k3
    have e3 : w3.cell? ⟨w.heap.size + 1, 3, none⟩ = some (.slice none 0 0) := cell_at k3
    have e4 : w3.cell? ⟨w.heap.size + 1, 4, none⟩ = some (.slice none 0 0) := cell_at k3
    have g0 : ∀ i, w3.frozen? ⟨w.heap.size + 1, i, none⟩ = false := fun i => frozen_at k3
    have HO := Lib.hid (And.intro o3 (And.intro o4 hb3))
    clear o1 o2 hbw HO1 HO2 HB1 HB2 CB CC k0 k1 k2 k3 o3 o4 hb3 hc1 hc2 hf1 hf2 hz0 hz1
    go_wp2
    refine bodyPost_ret (v := .agg #[.int .i64 le, .int .i64 mo, .int .i64 de, .slice a1 nb c1, .slice a2 nc c2]) ?_ rfl ?_
    · simp [results, Tryd.results49, go_sem, e0, e1, e2, e3, e4]
    refine ⟨_, _, rfl, ?_, ?_, ?_⟩
    · exact own_base (B := w.heap.size + 2) (by (repeat with_reducible refine ownsRow_setCell_below ?_ (by simp) _); exact HO.out.1) (by omega)
    · exact own_base (B := w.heap.size + 2) (by (repeat with_reducible refine ownsRow_setCell_below ?_ (by simp) _); exact HO.out.2.1) (by omega)
    · (repeat with_reducible refine Below.setCell ?_ (by simp) _); exact HO.out.2.2
end Go.Proofs.YtleppjdmcjocmaaDoor
