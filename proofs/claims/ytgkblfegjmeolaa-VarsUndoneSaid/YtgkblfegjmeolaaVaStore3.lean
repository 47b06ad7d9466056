/- store where the scope has no map yet; store in any case; content; value; full. -/
import Derived.Test.YtgkblfegjmeolaaVaStore2
namespace Go.Proofs.Ytgkblfegjmeolaa
open Go.RowKit Go.Lib
theorem fullNew {sc : Nat → Option Nat} {cb : Nat → Nat → Option Nat} (h : Full sc cb) (k n B0 : Nat) : Full sc (upn cb k n (some B0)) := by
  intro k' b hk
  obtain ⟨j, hj⟩ := h k' b hk
  by_cases e : k' = k
  · exact ⟨n, by simp [upn, e]⟩
  · exact ⟨j, by simp only [upn, if_neg (fun e2 : k' = k ∧ j = n => e e2.1)]; exact hj⟩
theorem fullFresh {sc : Nat → Option Nat} {cb : Nat → Nat → Option Nat} (h : Full sc cb) (k n B0 B1 : Nat) : Full (ups sc k (some B1)) (upn cb k n (some B0)) := by
  intro k' b hk
  by_cases e : k' = k
  · exact ⟨n, by simp [upn, e]⟩
  · rw [ups, if_neg e] at hk
    obtain ⟨j, hj⟩ := h k' b hk
    exact ⟨j, by simp only [upn, if_neg (fun e2 : k' = k ∧ j = n => e e2.1)]; exact hj⟩
set_option maxHeartbeats 1000000 in
set_option maxRecDepth 100000 in
theorem store_fresh {w : World} {G : Nat → Nat} {C : Nat → Nat → Option Cl} {c cm : Nat} {sc : Nat → Option Nat} {cb : Nat → Nat → Option Nat} (h : CellsAt w G C c cm sc cb) (hnew : ∀ j, w.heap.size ≤ j → G j = 0) (k n : Nat) (hk : k ≤ 65536) (hn : n < 16384) (hc : c ≤ 1000000) (x : Cl) (hs : sc k = none) (hF : Full sc cb) :
    Calls Try.prog 36 #[.map (some cm), .int .i64 k, .int .i64 n, cag x] w fun e w' => e = .returned (.tuple #[]) ∧ ∃ G' sc' cb', CellsAt w' G' (upd C k n (some x)) (c + 2) cm sc' cb' ∧ CWent w w' G G' ∧ Full sc' cb' := by
  have hcb := h.nos k n hs
  have hbw : Below w.heap.size w (w.alloc (cobj x)) := (Below.refl _ _).alloc (Nat.le_refl _) _
  have s0 : (w.alloc (cobj x)).heap.size = w.heap.size + 1 := by simp
  have hbm : Below w.heap.size w ((w.alloc (cobj x)).alloc (.map #[] 0)) := hbw.alloc (by omega) _
  have s1 : ((w.alloc (cobj x)).alloc (.map #[] 0)).heap.size = w.heap.size + 2 := by simp
  have h0 := h.below hbw
  have h1 := h.below hbm
  have a0 := alloc_at w (cobj x)
  have a1 : ((w.alloc (cobj x)).alloc (.map #[] 0)).heap[w.heap.size]? = some (cobj x) := (((Below.refl _ _).alloc (Nat.le_refl _) (.map #[] 0)).block w.heap.size (by omega)).trans a0
  have hM := MapF.made (w.alloc (cobj x)) ptrE
  rw [s0] at hM
  have l1 : (Instr.lookup 54 (.map (some cm)) (.int .i64 (k : Int)) false).run Try.prog (w.alloc (cobj x)) = .ok (.map none) (w.alloc (cobj x)) := by
    have := h0.look1 k hk
    rw [hs] at this
    exact this
  have l2 : (Instr.lookup 84 (.map none) (.int .i64 (n : Int)) false).run Try.prog (w.alloc (cobj x)) = .ok (.pointer none) (w.alloc (cobj x)) := by
    have := h0.look2n k n hcb hn
    rw [hs] at this
    exact this
  obtain ⟨w1, hrun, hput, hgr, hsz⟩ := h1.outer.put Try.underlying54 (by omega) k (by omega) (mapE_some (w.heap.size + 1))
  have hA := h1.scopeIn hs hM (hnew _ (by omega)) hput hgr
  have hB1 : w1.heap[w.heap.size]? = some (cobj x) := (hgr.block _ (by omega) (fun e => by have e2 : w.heap.size = cm := Option.some.inj e; have := hnew _ (Nat.le_refl w.heap.size); rw [e2, h.lab] at this; cases this)).trans a1
  have hs1 : ups sc k (some (w.heap.size + 1)) k = some (w.heap.size + 1) := by simp [ups]
  have l3 : (Instr.lookup 54 (.map (some cm)) (.int .i64 (k : Int)) false).run Try.prog w1 = .ok (.map (some (w.heap.size + 1))) w1 := by
    have := hA.look1 k hk
    rw [hs1] at this
    exact this
  obtain ⟨hGi, hMi⟩ := hA.inner k _ hs1
  obtain ⟨w2, hrun2, hput2, hgr2, hsz2⟩ := hMi.put Try.underlying84 (by omega) n (by omega) (ptrE_some w.heap.size)
  have hA2 := hA.added hs1 hcb hn hB1 (by rw [if_neg (by omega)]; exact hnew _ (Nat.le_refl _)) hput2 hgr2
  have hfin : CWent w w2 G (fun j => if j = w.heap.size then lC k n else if j = w.heap.size + 1 then lS k else G j) := by
    refine ⟨hgr2.os.trans (hgr.os.trans hbm.os), hgr2.tape.trans (hgr.tape.trans hbm.tape), hgr2.output.trans (hgr.output.trans hbm.output), by omega, fun j hj h2 h6 => ?_, fun j hj => ?_, fun j hj => ?_, fun j hj => ?_⟩
    · exact (hgr2.block j (by omega) (fun e => by have e2 : j = w.heap.size + 1 := Option.some.inj e; omega)).trans ((hgr.block j (by omega) (fun e => by have e2 : j = cm := Option.some.inj e; rw [e2, h.lab] at h2; exact h2 rfl)).trans (hbm.block j hj))
    · simp only [if_neg (show j ≠ w.heap.size by omega), if_neg (show j ≠ w.heap.size + 1 by omega)]
    · simp only [if_neg (show j ≠ w.heap.size by omega), if_neg (show j ≠ w.heap.size + 1 by omega)]; exact hnew j (by omega)
    · show (if j = w.heap.size then lC k n else if j = w.heap.size + 1 then lS k else G j) = 0 ∨ 6 ≤ (if j = w.heap.size then lC k n else if j = w.heap.size + 1 then lS k else G j)
      split
      · right; simp only [lC]; omega
      · split
        · right; simp only [lS]; omega
        · left; exact hnew j hj
  have HR := Lib.hid (And.intro hA2 (And.intro hfin (fullFresh hF k n w.heap.size (w.heap.size + 1))))
  have hq := eqlM (w.alloc (cobj x)) none
  have hmm := @run_makeMap Try.prog
  have hrun1 : (Instr.mapUpdate 54 (.map (some cm)) (.int .i64 (k : Int)) (.map (some (w.heap.size + 1)))).run Try.prog ((w.alloc (cobj x)).alloc (.map #[] 0)) = .ok () w1 := hrun
  have hrun3 : (Instr.mapUpdate 84 (.map (some (w.heap.size + 1))) (.int .i64 (n : Int)) (.pointer (some ⟨w.heap.size, 0, none⟩))).run Try.prog w1 = .ok () w2 := hrun2
  clear h h0 h1 hnew hbw hbm hs hs1 hcb hGi hMi hput hgr hsz hput2 hgr2 hsz2 hA hA2 hfin a0 a1 hrun hrun2 hM hB1 s0 s1 hF
  go_enter Try.func36, Try.ntmps36
  go_wp2_with fail
  first
    | (go_end0; exact ⟨rfl, _, _, _, HR.out⟩)
    | exact bodyPost_ret (v := .tuple #[]) (by simp [results, Try.results36, go_sem]) rfl ⟨rfl, _, _, _, HR.out⟩
theorem store_any {w : World} {G : Nat → Nat} {C : Nat → Nat → Option Cl} {c cm : Nat} {sc : Nat → Option Nat} {cb : Nat → Nat → Option Nat} (h : CellsAt w G C c cm sc cb) (hnew : ∀ j, w.heap.size ≤ j → G j = 0) (k n : Nat) (hk : k ≤ 65536) (hn : n < 16384) (hc : c ≤ 1000000) (x : Cl) (hF : Full sc cb) :
    Calls Try.prog 36 #[.map (some cm), .int .i64 k, .int .i64 n, cag x] w fun e w' => e = .returned (.tuple #[]) ∧ ∃ G' sc' cb', CellsAt w' G' (upd C k n (some x)) (c + 2) cm sc' cb' ∧ CWent w w' G G' ∧ Full sc' cb' := by
  cases hs : sc k with
  | none => exact store_fresh h hnew k n hk hn hc x hs hF
  | some ib =>
    cases hb : cb k n with
    | none =>
      refine (store_new h hnew k n hk hn hc x hs hb).mono ?_
      rintro e w' ⟨he, G', b0, h1, h2⟩
      exact ⟨he, G', sc, _, h1.mono (by omega), h2, fullNew hF k n b0⟩
    | some b =>
      refine (store_old h hnew k n hk x hb).mono ?_
      rintro e w' ⟨he, h1, h2⟩
      exact ⟨he, G, sc, cb, h1.mono (by omega), h2, hF⟩
theorem cobj_two {w : World} {o : Obj} : (w.alloc o).heap.size = w.heap.size + 1 := by simp
set_option maxHeartbeats 1000000 in
set_option maxRecDepth 100000 in
theorem content_any {w : World} {G : Nat → Nat} {C : Nat → Nat → Option Cl} {c cm : Nat} {sc : Nat → Option Nat} {cb : Nat → Nat → Option Nat} (h : CellsAt w G C c cm sc cb) (k n : Nat) (hk : k ≤ 65536) (hn : n < 16384) :
    Calls Try.prog 43 #[.map (some cm), .int .i64 k, .int .i64 n] w fun e w' => e = .returned (cag ((C k n).getD ((0, 0), false))) ∧ Below w.heap.size w w' := by
  have hbw : Below w.heap.size w (w.alloc (cobj ((0, 0), false))) := (Below.refl _ _).alloc (Nat.le_refl _) _
  have h0 := h.below hbw
  have a0 := alloc_at w (cobj ((0, 0), false))
  have l1 := h0.look1 k hk
  have e0 : (w.alloc (cobj ((0, 0), false))).cell? ⟨w.heap.size, 0, none⟩ = some (.int .i64 0) := cell_at a0
  have e1 : (w.alloc (cobj ((0, 0), false))).cell? ⟨w.heap.size, 1, none⟩ = some (.int .i64 0) := cell_at a0
  have e2 : (w.alloc (cobj ((0, 0), false))).cell? ⟨w.heap.size, 2, none⟩ = some (.bool false) := cell_at a0
  have f0 : (w.alloc (cobj ((0, 0), false))).frozen? ⟨w.heap.size, 0, none⟩ = false := frozen_at a0
  have f1 : (w.alloc (cobj ((0, 0), false))).frozen? ⟨w.heap.size, 1, none⟩ = false := frozen_at a0
  have f2 : (w.alloc (cobj ((0, 0), false))).frozen? ⟨w.heap.size, 2, none⟩ = false := frozen_at a0
  cases hb : cb k n with
  | none =>
    have l2 := h0.look2n k n hb hn
    rw [h.free k n hb]
    generalize sc k = s at l1 l2
    clear h h0 hbw a0 hb
    go_enter Try.func43, Try.ntmps43
    go_wp2_with fail
    refine bodyPost_ret (v := cag ((0, 0), false)) ?_ rfl ⟨rfl, (Below.refl _ _).alloc (Nat.le_refl _) _⟩
    simp [results, Try.results43, go_sem]
  | some b =>
    have l2 := h0.look2y k n hb hn
    obtain ⟨_, hG, y, hy, hh⟩ := h0.cell k n b hb
    rw [hy]
    have v0 : (w.alloc (cobj ((0, 0), false))).cell? ⟨b, 0, none⟩ = some (.int .i64 y.1.1) := cell_at hh
    have v1 : (w.alloc (cobj ((0, 0), false))).cell? ⟨b, 1, none⟩ = some (.int .i64 y.1.2) := cell_at hh
    have v2 : (w.alloc (cobj ((0, 0), false))).cell? ⟨b, 2, none⟩ = some (.bool y.2) := cell_at hh
    generalize sc k = s at l1 l2
    clear h h0 hbw a0 hb hh hy hG
    go_enter Try.func43, Try.ntmps43
    go_wp2_with fail
    refine bodyPost_ret (v := cag y) ?_ rfl ⟨rfl, (Below.refl _ _).alloc (Nat.le_refl _) _⟩
    simp [results, Try.results43, go_sem]
end Go.Proofs.Ytgkblfegjmeolaa
