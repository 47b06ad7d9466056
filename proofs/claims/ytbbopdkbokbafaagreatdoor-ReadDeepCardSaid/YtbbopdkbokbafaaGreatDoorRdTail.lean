/- The contract of the reader's tail. -/
import Derived.Test.YtbbopdkbokbafaaGreatDoorRdSmall
namespace Go.Proofs.YtbbopdkbokbafaaGreatDoor
open Go.RowKit Go.Lib
section
variable {w0 w : World} {r : Rd} {F : Nat → Nat} {s : Rs} {o : Out Wd}
set_option maxHeartbeats 1000000 in
theorem rtail_any (h : RdAt w0 w r F s) (n : Nat) (hp : s.pos + 1 ≤ r.L.length) (hF : FormOk w0 r n (s.pos + 1)) (hl : formO r.L n { s with pos := s.pos + 1 } ≠ .lost) :
    Calls Tryz.prog 216 #[rp r] w fun e w' => Does w0 w r F (tailO r.L (formO r.L n) s) e w' := by
  have H := Lib.hid h
  have g0 : GoR w0 w (wz w) (fun k => k = w.heap.size) r F s := GoR.of h (wz_below w) (by rintro k rfl; simp)
  have c3 : (wz w).cell? ⟨r.pb, 3, none⟩ = some (.int .i64 s.pos) := cell_at (h.junk (wz_below w)).own
  have f3 := (h.junk (wz_below w)).frozen 3
  have hm := (h.junk (wz_below w)).mvPos (s.pos + 1) hp
  have hlp : s.pos ≤ 100000 := by have := h.pos; have := h.fix.len; omega
  rw [show (((s.pos + 1 : Nat) : Int)) = (s.pos : Int) + 1 by simp] at hm
  have HM := Lib.hid hm
  have cF := fun W (g : GoR w0 w W (fun k => k = w.heap.size) r F { s with pos := s.pos + 1 }) => does_go h g fun F1 h1 => hF F1 _ W h1 (Nat.le_refl _) hl
  have g1 : GoR w0 w ((wz w).setCell ⟨r.pb, 3, none⟩ (.int .i64 ((s.pos : Int) + 1))) (fun k => k = w.heap.size) r F { s with pos := s.pos + 1 } := by
    obtain ⟨F1, h1, h2, _⟩ := g0.step h
    have := h1.mvPos (s.pos + 1) hp
    rw [show (((s.pos + 1 : Nat) : Int)) = (s.pos : Int) + 1 by simp] at this
    exact (h2 _ _ this.went).go
  have c4 := cF _ g1
  have k1 : ((wz w).setCell ⟨r.pb, 3, none⟩ (.int .i64 ((s.pos : Int) + 1))).heap[w.heap.size]? = some (wob (0, 0)) := (setCell_off _ (by have := h.lt; simp; omega)).trans (wz_at w)
  have HK := Lib.hid k1
  unfold tailO
  generalize formO r.L n { s with pos := s.pos + 1 } = g at *
  have HL := Lib.hid hl
  clear h hF hl cF g0 g1 hm k1 hp
  cases g with
  | lost => exact absurd rfl HL.out
  | bad er a s' =>
    go_enter Tryz.func216, Tryz.ntmps216
    go_wp2_with fail
    refine c4.mono ?_
    rintro e W2 ⟨rfl, hw⟩
    have HW := Lib.hid hw
    clear hw
    go_wp2
    exact ⟨rfl, rfl, HW.out⟩
  | ok x s' =>
    simp only
    go_enter Tryz.func216, Tryz.ntmps216
    go_wp2_with fail
    refine c4.mono ?_
    rintro e W2 ⟨rfl, hw⟩
    have g2 := hw.go.add ((Below.refl _ _).alloc (Nat.le_refl _) (.cells #[.int .i64 x.1, .int .i64 x.2] 28)) (Nat.le_refl _) (by simp)
    have zl : w.heap.size < W2.heap.size := by obtain ⟨_, _, _, _, q⟩ := hw.go; exact (q _ rfl).2.1
    have p0 : (W2.alloc (.cells #[.int .i64 x.1, .int .i64 x.2] 28)).heap[w.heap.size]? = some (wob (0, 0)) := by
      rw [Below.heap_alloc _ _ _ zl, hw.block _ rfl]
      exact HK.out
    have p1 : (W2.alloc (.cells #[.int .i64 x.1, .int .i64 x.2] 28)).heap[W2.heap.size]? = some (wob x) := alloc_at W2 _
    have cM := mv_go H.out g2 fun F1 h1 => more_any h1
    have HP := Lib.hid (And.intro p0 p1)
    clear p0 p1 g2 hw c4
    go_wp2_with fail
    refine cM.mono ?_
    rintro e W3 ⟨rfl, hs3⟩
    have k0 : W3.heap[w.heap.size]? = some (wob (0, 0)) := (hs3.block _ (.inl rfl)).trans HP.out.1
    have k1 : W3.heap[W2.heap.size]? = some (wob x) := (hs3.block _ (.inr rfl)).trans HP.out.2
    have cQ := same_go H.out hs3.go fun F1 h1 => peek_any h1
    simp only at cQ
    have x0 : W3.cell? ⟨W2.heap.size, 0, none⟩ = some (.int .i64 x.1) := cell_at k1
    have x1 : W3.cell? ⟨W2.heap.size, 1, none⟩ = some (.int .i64 x.2) := cell_at k1
    have d0 : W3.cell? ⟨w.heap.size, 0, none⟩ = some (.int .i64 0) := cell_at k0
    have d1 : W3.cell? ⟨w.heap.size, 1, none⟩ = some (.int .i64 0) := cell_at k0
    have e0 : W3.frozen? ⟨w.heap.size, 0, none⟩ = false := frozen_at k0
    have e1 : W3.frozen? ⟨w.heap.size, 1, none⟩ = false := frozen_at k0
    have c5 : W3.cell? ⟨r.pb, 3, none⟩ = some (.int .i64 ((skipTo r.L s'.pos : Nat) : Int)) := by obtain ⟨F1, h1, _⟩ := hs3.go.step H.out; exact cell_at h1.own
    have HG := Lib.hid hs3.go
    clear hs3 k0 k1 cM HP
    by_cases h41 : ch r.L (skipTo r.L s'.pos) = 41
    · rw [h41] at cQ
      go_wp2_with fail
      refine cQ.mono ?_
      rintro e w' ⟨rfl, rfl⟩
      go_wp2
      refine bodyPost_ret (v := wv x) ?_ rfl ⟨rfl, (HG.out.mono fun k h => .inl h).fill H.out rfl _ _⟩
      simp [results, Tryz.results216, go_sem, d0, d1]
    · have h41b : (ch r.L (skipTo r.L s'.pos) != 41) = true := by simpa using h41
      go_wp2_with fail
      refine cQ.mono ?_
      rintro e w' ⟨rfl, rfl⟩
      go_wp2_with fail
      refine (malformed_any _ _).mono ?_
      rintro e W5 ⟨rfl, hb⟩
      have HB := Lib.hid hb
      clear hb
      go_wp2
      exact ⟨rfl, rfl, (HG.out.junk HB.out).went.bad⟩
end
end Go.Proofs.YtbbopdkbokbafaaGreatDoor
