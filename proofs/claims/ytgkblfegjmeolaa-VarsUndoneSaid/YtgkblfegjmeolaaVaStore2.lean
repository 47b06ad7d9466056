/- store: a cell is made, in a scope that is there or not. -/
import Derived.Test.YtgkblfegjmeolaaVaStore
import Derived.Shelf.SlMaps.Clone
namespace Go.Proofs.Ytgkblfegjmeolaa
open Go.RowKit Go.Lib
theorem hmap_ne {G : Nat → Nat} {a b : Nat} (h : G a ≠ G b) : a ≠ b := fun e => h (by rw [e])
/-- A cell is put into a scope's map. -/
theorem CellsAt.added {w w' : World} {G : Nat → Nat} {C : Nat → Nat → Option Cl} {c cm : Nat} {sc : Nat → Option Nat} {cb : Nat → Nat → Option Nat} (h : CellsAt w G C c cm sc cb) {k n ib B0 : Nat} (hs : sc k = some ib) (hcb : cb k n = none) (hn : n < 16384) {x : Cl}
    (hB : w.heap[B0]? = some (cobj x)) (hG0 : G B0 = 0) (hput : MapF w' ptrE ib (c + 1) (fun j => if j = n then some (hptr B0) else (cb k j).map hptr)) (hgr : w.grownBy w' (some ib)) :
    CellsAt w' (fun j => if j = B0 then lC k n else G j) (upd C k n (some x)) (c + 1) cm sc (upn cb k n (some B0)) := by
  obtain ⟨hGi, hMi⟩ := h.inner k ib hs
  have hoff : ∀ j, j < w.heap.size → G j ≠ lS k → w'.heap[j]? = w.heap[j]? := fun j hj e => hgr.block j hj (fun e2 => e (by cases e2; exact hGi))
  have hne : ∀ j, G j ≠ 0 → j ≠ B0 := fun j hj e => hj (by rw [e]; exact hG0)
  have hcm : cm ≠ B0 := hne _ (by rw [h.lab]; decide)
  refine ⟨by simp only [if_neg hcm]; exact h.lab, (h.outer.move (hoff cm h.outer.lt (by rw [h.lab]; simp only [lS]; omega))).mono (Nat.le_succ _), fun k' b hk => ?_, fun k' n' hk => ?_, fun k' n' b hk => ?_, fun k' n' hk => ?_⟩
  · obtain ⟨h1, h2⟩ := h.inner k' b hk
    have hb : b ≠ B0 := hne _ (by rw [h1]; simp only [lS]; omega)
    simp only [if_neg hb]
    refine ⟨h1, ?_⟩
    by_cases e : k' = k
    · subst e
      rw [hs] at hk
      cases hk
      refine hput.ext fun j => ?_
      unfold upn
      by_cases ej : j = n
      · rw [if_pos ej, if_pos ⟨rfl, ej⟩]; rfl
      · rw [if_neg ej, if_neg (fun e2 => ej e2.2)]
    · refine ((h2.move (hoff b h2.lt (by rw [h1]; simp only [lS]; omega))).mono (Nat.le_succ _)).ext fun j => ?_
      unfold upn
      rw [if_neg (fun e2 => e e2.1)]
  · unfold upn
    by_cases e : k' = k ∧ n' = n
    · rw [e.1, hs] at hk; cases hk
    · rw [if_neg e]; exact h.nos k' n' hk
  · unfold upn at hk
    unfold upd
    by_cases e : k' = k ∧ n' = n
    · rw [if_pos e] at hk
      cases hk
      refine ⟨by rw [e.2]; exact hn, by simp only [if_true]; rw [e.1, e.2], x, by rw [if_pos e], ?_⟩
      exact (hoff B0 (lt_at hB) (by rw [hG0]; simp only [lS]; omega)).trans hB
    · rw [if_neg e] at hk
      obtain ⟨h0, h1, y, h2, h3⟩ := h.cell k' n' b hk
      have hb : b ≠ B0 := hne _ (by rw [h1]; simp only [lC]; omega)
      exact ⟨h0, by simp only [if_neg hb]; exact h1, y, by rw [if_neg e]; exact h2, (hoff b (lt_at h3) (by rw [h1]; simp only [lS, lC]; omega)).trans h3⟩
  · unfold upn at hk
    unfold upd
    by_cases e : k' = k ∧ n' = n
    · rw [if_pos e] at hk; cases hk
    · rw [if_neg e] at hk ⊢
      exact h.free k' n' hk
/-- A scope is put into the map of scopes. -/
theorem CellsAt.scopeIn {w w' : World} {G : Nat → Nat} {C : Nat → Nat → Option Cl} {c cm : Nat} {sc : Nat → Option Nat} {cb : Nat → Nat → Option Nat} (h : CellsAt w G C c cm sc cb) {k B1 : Nat} (hs : sc k = none)
    (hB : MapF w ptrE B1 0 (fun _ => none)) (hG1 : G B1 = 0) (hput : MapF w' mapE cm (c + 1) (fun j => if j = k then some (hmap B1) else (sc j).map hmap)) (hgr : w.grownBy w' (some cm)) :
    CellsAt w' (fun j => if j = B1 then lS k else G j) C (c + 1) cm (ups sc k (some B1)) cb := by
  have hoff : ∀ j, j < w.heap.size → G j ≠ 2 → w'.heap[j]? = w.heap[j]? := fun j hj e => hgr.block j hj (fun e2 => e (by cases e2; exact h.lab))
  have hne : ∀ j, G j ≠ 0 → j ≠ B1 := fun j hj e => hj (by rw [e]; exact hG1)
  have hcm : cm ≠ B1 := hne _ (by rw [h.lab]; decide)
  refine ⟨by simp only [if_neg hcm]; exact h.lab, hput.ext fun j => ?_, fun k' b hk => ?_, fun k' n' hk => ?_, fun k' n' b hk => ?_, h.free⟩
  · unfold ups
    split <;> rfl
  · unfold ups at hk
    by_cases e : k' = k
    · rw [if_pos e] at hk
      cases hk
      refine ⟨by simp only [if_true]; rw [e], ?_⟩
      refine ((hB.move (hoff B1 hB.lt (by rw [hG1]; decide))).mono (Nat.zero_le _)).ext fun j => ?_
      rw [e, h.nos k j hs]
      rfl
    · rw [if_neg e] at hk
      obtain ⟨h1, h2⟩ := h.inner k' b hk
      have hb : b ≠ B1 := hne _ (by rw [h1]; simp only [lS]; omega)
      simp only [if_neg hb]
      exact ⟨h1, (h2.move (hoff b h2.lt (by rw [h1]; simp only [lS]; omega))).mono (Nat.le_succ _)⟩
  · unfold ups at hk
    by_cases e : k' = k
    · rw [if_pos e] at hk; cases hk
    · rw [if_neg e] at hk; exact h.nos k' n' hk
  · obtain ⟨h0, h1, y, h2, h3⟩ := h.cell k' n' b hk
    have hb : b ≠ B1 := hne _ (by rw [h1]; simp only [lC]; omega)
    exact ⟨h0, by simp only [if_neg hb]; exact h1, y, h2, (hoff b (lt_at h3) (by rw [h1]; simp only [lC]; omega)).trans h3⟩
theorem eqlM (w : World) (p : Option Nat) : (binOp .eql 84 (.map p) (.map none)).run Try.prog w = .ok (.bool p.isNone) w := Go.Proofs.run_eql_map_nil_sl w _ _ _ p Try.underlying84
set_option maxHeartbeats 1000000 in
set_option maxRecDepth 100000 in
theorem store_new {w : World} {G : Nat → Nat} {C : Nat → Nat → Option Cl} {c cm : Nat} {sc : Nat → Option Nat} {cb : Nat → Nat → Option Nat} (h : CellsAt w G C c cm sc cb) (hnew : ∀ j, w.heap.size ≤ j → G j = 0) (k n : Nat) (hk : k ≤ 65536) (hn : n < 16384) (hc : c ≤ 1000000) (x : Cl) {ib : Nat} (hs : sc k = some ib) (hcb : cb k n = none) :
    Calls Try.prog 36 #[.map (some cm), .int .i64 k, .int .i64 n, cag x] w fun e w' => e = .returned (.tuple #[]) ∧ ∃ G' b0, CellsAt w' G' (upd C k n (some x)) (c + 1) cm sc (upn cb k n (some b0)) ∧ CWent w w' G G' := by
  have hbw : Below w.heap.size w (w.alloc (cobj x)) := (Below.refl _ _).alloc (Nat.le_refl _) _
  have h0 := h.below hbw
  have a0 := alloc_at w (cobj x)
  have l1 : (Instr.lookup 54 (.map (some cm)) (.int .i64 (k : Int)) false).run Try.prog (w.alloc (cobj x)) = .ok (.map (some ib)) (w.alloc (cobj x)) := by
    have := h0.look1 k hk
    rw [hs] at this
    exact this
  have l2 : (Instr.lookup 84 (.map (some ib)) (.int .i64 (n : Int)) false).run Try.prog (w.alloc (cobj x)) = .ok (.pointer none) (w.alloc (cobj x)) := by
    have := h0.look2n k n hcb hn
    rw [hs] at this
    exact this
  obtain ⟨hGi, hMi⟩ := h0.inner k ib hs
  obtain ⟨w1, hrun, hput, hgr, hsz⟩ := hMi.put Try.underlying84 (by omega) n (by omega) (ptrE_some w.heap.size)
  have hA := h0.added hs hcb hn a0 (hnew _ (Nat.le_refl _)) hput hgr
  have hfin : CWent w w1 G (fun j => if j = w.heap.size then lC k n else G j) := by
    have hs0 : (w.alloc (cobj x)).heap.size = w.heap.size + 1 := by simp
    refine ⟨hgr.os.trans hbw.os, hgr.tape.trans hbw.tape, hgr.output.trans hbw.output, by omega, fun j hj h2 h6 => (hgr.block j (by omega) (fun e => by cases e; rw [hGi] at h6; simp only [lS] at h6; omega)).trans (hbw.block j hj), fun j hj => if_neg (by omega), fun j hj => ?_, fun j hj => ?_⟩
    · simp only [if_neg (show j ≠ w.heap.size by omega)]; exact hnew j (by omega)
    · show (if j = w.heap.size then lC k n else G j) = 0 ∨ 6 ≤ (if j = w.heap.size then lC k n else G j)
      split
      · right; simp only [lC]; omega
      · left; exact hnew j hj
  have HR := Lib.hid (And.intro hA hfin)
  have hq := eqlM (w.alloc (cobj x)) (some ib)
  have hrun2 : (Instr.mapUpdate 84 (.map (some ib)) (.int .i64 (n : Int)) (.pointer (some ⟨w.heap.size, 0, none⟩))).run Try.prog (w.alloc (cobj x)) = .ok () w1 := hrun
  clear h h0 hnew hbw hs hcb hGi hMi hput hgr hsz hA hfin a0 hrun
  go_enter Try.func36, Try.ntmps36
  go_wp2_with fail
  first
    | (go_end0; exact ⟨rfl, _, _, HR.out⟩)
    | exact bodyPost_ret (v := .tuple #[]) (by simp [results, Try.results36, go_sem]) rfl ⟨rfl, _, _, HR.out⟩
end Go.Proofs.Ytgkblfegjmeolaa
