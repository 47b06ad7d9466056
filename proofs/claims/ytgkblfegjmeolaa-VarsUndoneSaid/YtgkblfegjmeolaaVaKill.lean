/- remove, KillLocal, Drop. -/
import Derived.Test.YtgkblfegjmeolaaVaLoc
namespace Go.Proofs.Ytgkblfegjmeolaa
open Go.RowKit Go.Lib
def updS (C : Nat → Nat → Option Cl) (k : Nat) : Nat → Nat → Option Cl := fun k' n' => if k' = k then none else C k' n'
/-- A cell is taken out of a scope's map. -/
theorem CellsAt.dropped {w w' : World} {G : Nat → Nat} {C : Nat → Nat → Option Cl} {c cm : Nat} {sc : Nat → Option Nat} {cb : Nat → Nat → Option Nat} (h : CellsAt w G C c cm sc cb) {k n ib : Nat} (hs : sc k = some ib)
    (hput : MapF w' ptrE ib c (fun j => if j = n then none else (cb k j).map hptr)) (hgr : w.grownBy w' (some ib)) :
    CellsAt w' G (upd C k n none) c cm sc (upn cb k n none) := by
  obtain ⟨hGi, hMi⟩ := h.inner k ib hs
  have hoff : ∀ j, j < w.heap.size → G j ≠ lS k → w'.heap[j]? = w.heap[j]? := fun j hj e => hgr.block j hj (fun e2 => e (by cases e2; exact hGi))
  refine ⟨h.lab, h.outer.move (hoff cm h.outer.lt (by rw [h.lab]; simp only [lS]; omega)), fun k' b hk => ?_, fun k' n' hk => ?_, fun k' n' b hk => ?_, fun k' n' hk => ?_⟩
  · obtain ⟨h1, h2⟩ := h.inner k' b hk
    refine ⟨h1, ?_⟩
    by_cases e : k' = k
    · subst e
      rw [hs] at hk
      cases hk
      refine hput.ext fun j => ?_
      unfold upn
      by_cases ej : j = n
      · rw [if_pos ej, if_pos ⟨rfl, ej⟩]; rfl
      · rw [if_neg ej, if_neg (fun e2 => ej e2.2)]
    · refine (h2.move (hoff b h2.lt (by rw [h1]; simp only [lS]; omega))).ext fun j => ?_
      unfold upn
      rw [if_neg (fun e2 => e e2.1)]
  · unfold upn
    by_cases e : k' = k ∧ n' = n
    · rw [if_pos e]
    · rw [if_neg e]; exact h.nos k' n' hk
  · unfold upn at hk
    unfold upd
    by_cases e : k' = k ∧ n' = n
    · rw [if_pos e] at hk; cases hk
    · rw [if_neg e] at hk
      obtain ⟨h0, h1, y, h2, h3⟩ := h.cell k' n' b hk
      exact ⟨h0, h1, y, by rw [if_neg e]; exact h2, (hoff b (lt_at h3) (by rw [h1]; simp only [lS, lC]; omega)).trans h3⟩
  · unfold upn at hk
    unfold upd
    by_cases e : k' = k ∧ n' = n
    · rw [if_pos e]
    · rw [if_neg e] at hk ⊢
      exact h.free k' n' hk
/-- A scope is taken out of the map of scopes. -/
theorem CellsAt.unscoped {w w' : World} {G : Nat → Nat} {C : Nat → Nat → Option Cl} {c cm : Nat} {sc : Nat → Option Nat} {cb : Nat → Nat → Option Nat} (h : CellsAt w G C c cm sc cb) {k : Nat}
    (hput : MapF w' mapE cm c (fun j => if j = k then none else (sc j).map hmap)) (hgr : w.grownBy w' (some cm)) :
    CellsAt w' G (updS C k) c cm (ups sc k none) (fun k' n' => if k' = k then none else cb k' n') := by
  have hoff : ∀ j, j < w.heap.size → G j ≠ 2 → w'.heap[j]? = w.heap[j]? := fun j hj e => hgr.block j hj (fun e2 => e (by cases e2; exact h.lab))
  refine ⟨h.lab, hput.ext fun j => ?_, fun k' b hk => ?_, fun k' n' hk => ?_, fun k' n' b hk => ?_, fun k' n' hk => ?_⟩
  · unfold ups
    split <;> rfl
  · unfold ups at hk
    by_cases e : k' = k
    · rw [if_pos e] at hk; cases hk
    · rw [if_neg e] at hk
      obtain ⟨h1, h2⟩ := h.inner k' b hk
      refine ⟨h1, (h2.move (hoff b h2.lt (by rw [h1]; simp only [lS]; omega))).ext fun j => ?_⟩
      rw [if_neg e]
  · unfold ups at hk
    by_cases e : k' = k
    · rw [if_pos e]
    · rw [if_neg e] at hk ⊢; exact h.nos k' n' hk
  · by_cases e : k' = k
    · rw [if_pos e] at hk; cases hk
    · rw [if_neg e] at hk
      obtain ⟨h0, h1, y, h2, h3⟩ := h.cell k' n' b hk
      exact ⟨h0, h1, y, by unfold updS; rw [if_neg e]; exact h2, (hoff b (lt_at h3) (by rw [h1]; simp only [lC]; omega)).trans h3⟩
  · unfold updS
    by_cases e : k' = k
    · rw [if_pos e]
    · rw [if_neg e] at hk ⊢; exact h.free k' n' hk
theorem fullDrop {sc : Nat → Option Nat} {cb : Nat → Nat → Option Nat} (h : Full sc cb) (k : Nat) : Full (ups sc k none) (fun k' n' => if k' = k then none else cb k' n') := by
  intro k' b hk
  unfold ups at hk
  by_cases e : k' = k
  · rw [if_pos e] at hk; cases hk
  · rw [if_neg e] at hk
    obtain ⟨n, hn⟩ := h k' b hk
    exact ⟨n, by simp only [if_neg e]; exact hn⟩
theorem CWent.of_cm {w w' : World} {G : Nat → Nat} {cm : Nat} (hl : G cm = 2) (hnew : ∀ j, w.heap.size ≤ j → G j = 0) (hgr : w.grownBy w' (some cm)) : CWent w w' G G :=
  ⟨hgr.os, hgr.tape, hgr.output, hgr.size, fun j hj h2 _ => hgr.block j hj (fun e => h2 (by cases e; exact hl)), fun _ _ => rfl, fun j hj => hnew j (Nat.le_trans hgr.size hj), fun j hj => .inl (hnew j hj)⟩
theorem CWent.of_ib {w w' : World} {G : Nat → Nat} {ib : Nat} (hl : 6 ≤ G ib) (hnew : ∀ j, w.heap.size ≤ j → G j = 0) (hgr : w.grownBy w' (some ib)) : CWent w w' G G :=
  ⟨hgr.os, hgr.tape, hgr.output, hgr.size, fun j hj _ h6 => hgr.block j hj (fun e => by cases e; omega), fun _ _ => rfl, fun j hj => hnew j (Nat.le_trans hgr.size hj), fun j hj => .inl (hnew j hj)⟩
theorem CWent.two {w w' w2 : World} {G : Nat → Nat} (h : CWent w w' G G) (h2 : CWent w' w2 G G) : CWent w w2 G G :=
  ⟨h2.os.trans h.os, h2.tape.trans h.tape, h2.output.trans h.output, Nat.le_trans h.size h2.size, fun j hj a b => (h2.block j (Nat.lt_of_lt_of_le hj h.size) a b).trans (h.block j hj a b), fun _ _ => rfl, h2.new, h.fresh⟩
theorem updS_none {C : Nat → Nat → Option Cl} {k : Nat} (h : ∀ n, C k n = none) : updS C k = C := by
  funext k' n'
  unfold updS
  split
  · rename_i e; rw [e, h]
  · rfl
theorem upd_none {C : Nat → Nat → Option Cl} {k n : Nat} (h : C k n = none) : upd C k n none = C := by
  funext k' n'
  unfold upd
  split
  · rename_i e; rw [e.1, e.2, h]
  · rfl
set_option maxHeartbeats 1000000 in
set_option maxRecDepth 100000 in
theorem remove_any {w : World} {G : Nat → Nat} {C : Nat → Nat → Option Cl} {c cm : Nat} {sc : Nat → Option Nat} {cb : Nat → Nat → Option Nat} (h : CellsAt w G C c cm sc cb) (hnew : ∀ j, w.heap.size ≤ j → G j = 0) (k n : Nat) (hk : k ≤ 65536) (hn : n < 16384) (hF : Full sc cb) :
    Calls Try.prog 48 #[.map (some cm), .int .i64 k, .int .i64 n] w fun e w' => e = .returned (.tuple #[]) ∧ ∃ sc' cb', CellsAt w' G (upd C k n none) c cm sc' cb' ∧ CWent w w' G G ∧ Full sc' cb' := by
  cases hs : sc k with
  | none =>
    have l1 : (Instr.lookup 54 (.map (some cm)) (.int .i64 (k : Int)) false).run Try.prog w = .ok (.map none) w := by
      have := h.look1 k hk
      rw [hs] at this
      exact this
    have hCn : ∀ j, C k j = none := fun j => h.free k j (h.nos k j hs)
    have d1 := Maps.drop_nil (w := w) ikey Try.underlying84 (keyI n (by omega)) 0
    have n1 := Maps.len_nil (w := w) Try.underlying84 3
    obtain ⟨w2, d2, hm2, hgr, hsz⟩ := h.outer.drop Try.underlying54 k (by omega) 0
    have hfin := h.unscoped hm2 hgr
    rw [updS_none hCn] at hfin
    rw [upd_none (hCn n)]
    have HR := Lib.hid (And.intro hfin (And.intro (CWent.of_cm h.lab hnew hgr) (fullDrop hF k)))
    clear h hnew hk hn hF hs hCn hm2 hgr hsz hfin
    go_enter Try.func48, Try.ntmps48
    go_wp2
    go_end0
    exact ⟨rfl, _, _, HR.out⟩
  | some ib =>
    have l1 : (Instr.lookup 54 (.map (some cm)) (.int .i64 (k : Int)) false).run Try.prog w = .ok (.map (some ib)) w := by
      have := h.look1 k hk
      rw [hs] at this
      exact this
    obtain ⟨hGi, hMi⟩ := h.inner k ib hs
    obtain ⟨w1, d1, hm1, hgr1, hsz1⟩ := hMi.drop Try.underlying84 n (by omega) 0
    have h1 := h.dropped hs hm1 hgr1
    have l2 : (Instr.lookup 54 (.map (some cm)) (.int .i64 (k : Int)) false).run Try.prog w1 = .ok (.map (some ib)) w1 := by
      have := h1.look1 k hk
      rw [hs] at this
      exact this
    obtain ⟨s, n1, _, hs0⟩ := (h1.inner k ib hs).2.len Try.underlying84 3
    have hnew1 : ∀ j, w1.heap.size ≤ j → G j = 0 := fun j hj => hnew j (by omega)
    have hW1 := CWent.of_ib (by rw [hGi]; simp only [lS]; omega) hnew hgr1
    by_cases hz : s = 0
    · subst hz
      have hno := hs0.1 rfl
      obtain ⟨w2, d2, hm2, hgr2, hsz2⟩ := h1.outer.drop Try.underlying54 k (by omega) 0
      have hfin := h1.unscoped hm2 hgr2
      have hCn : ∀ j, upd C k n none k j = none := fun j => h1.free k j (by have := hno j; cases hq : upn cb k n none k j with | none => rfl | some b => rw [hq] at this; cases this)
      rw [updS_none hCn] at hfin
      have hFu : Full (ups sc k none) (fun k' n' => if k' = k then none else upn cb k n none k' n') := by
        intro k' b hk'
        unfold ups at hk'
        by_cases e : k' = k
        · rw [if_pos e] at hk'; cases hk'
        · rw [if_neg e] at hk'
          obtain ⟨j, hj⟩ := hF k' b hk'
          exact ⟨j, by simp only [if_neg e]; unfold upn; rw [if_neg (fun e2 => e e2.1)]; exact hj⟩
      have HR := Lib.hid (And.intro hfin (And.intro (hW1.two (CWent.of_cm h.lab hnew1 hgr2)) hFu))
      clear h hnew hk hn hF hs hGi hMi hm1 hgr1 hsz1 h1 hs0 hnew1 hW1 hno hm2 hgr2 hsz2 hfin hCn hFu
      go_enter Try.func48, Try.ntmps48
      go_wp2
      go_end0
      exact ⟨rfl, _, _, HR.out⟩
    · have hFu : Full sc (upn cb k n none) := by
        intro k' b hk'
        by_cases e : k' = k
        · subst e
          by_cases hall : ∀ j, (upn cb k' n none k' j).map hptr = none
          · exact absurd (hs0.2 hall) hz
          · obtain ⟨j, hj⟩ := Classical.not_forall.1 hall
            refine ⟨j, ?_⟩
            cases hq : upn cb k' n none k' j with
            | none => rw [hq] at hj; exact absurd rfl hj
            | some b => rfl
        · obtain ⟨j, hj⟩ := hF k' b hk'
          exact ⟨j, by unfold upn; rw [if_neg (fun e2 => e e2.1)]; exact hj⟩
      have HR := Lib.hid (And.intro h1 (And.intro hW1 hFu))
      have hz1 : ((s : Int) == 0) = false := by rw [beq_eq_false_iff_ne]; omega
      clear h hnew hk hn hF hs hGi hMi hm1 hgr1 hsz1 h1 hs0 hnew1 hW1 hFu
      go_enter Try.func48, Try.ntmps48
      go_wp2
      go_end0
      exact ⟨rfl, _, _, HR.out⟩
def Vs.kill (m : Vs) (n : Nat) : Vs := { m with cells := upd m.cells m.scope n none }
set_option maxHeartbeats 1000000 in
set_option maxRecDepth 100000 in
theorem killlocal_ok {w : World} {vb : Nat} {G : Nat → Nat} {m : Vs} (h : VarsAt w vb G m) (n : Nat) (hn : n < 16384) (hs : 1 ≤ m.scope) :
    Calls Try.prog 18 #[hptr vb, .int .i64 n] w fun e w' => e = .returned (.int .i64 0) ∧ VWent w w' vb G (m.kill n) := by
  obtain ⟨cm, mm, bv, sc, cb, e1, e2, e3, hFu, hfin⟩ := h.celled
  have c0 : w.cell? ⟨vb, 0, none⟩ = some (.map (some cm)) := cell_at e1
  have c1 : w.cell? ⟨vb, 1, none⟩ = some (.int .i64 m.scope) := cell_at e1
  have cK := check_ok vb cm n w hn c0
  have hd : ((m.scope : Int) == 0) = false := by rw [beq_eq_false_iff_ne]; omega
  have hce : ∀ X, Below w.heap.size w X → X.cell? ⟨vb, 0, none⟩ = some (.map (some cm)) ∧ X.cell? ⟨vb, 1, none⟩ = some (.int .i64 m.scope) := fun X hX =>
    ⟨(cell_at ((hX.block _ (lt_at e1)).trans e1)).trans rfl, (cell_at ((hX.block _ (lt_at e1)).trans e1)).trans rfl⟩
  have cR : ∀ X, Below w.heap.size w X → Calls Try.prog 48 #[.map (some cm), .int .i64 m.scope, .int .i64 n] X fun e w' => e = .returned (.tuple #[]) ∧ VWent w w' vb G (m.kill n) ∧
      (w'.cell? ⟨vb, 0, none⟩ = some (.map (some cm)) ∧ w'.cell? ⟨vb, 1, none⟩ = some (.int .i64 m.scope)) := fun X hX => by
    have hXs := hX.size
    refine (remove_any (e2.below hX) (fun j hj => h.new j (by omega)) m.scope n h.scope hn hFu).mono ?_
    rintro e w' ⟨he, sc', cb', hC, hW, hF'⟩
    have hst := (CWent.after hX hW h.new).block
    have e9 := (hst vb (lt_at e1) (by rw [h.lab]; decide) (by rw [h.lab]; decide)).trans e1
    exact ⟨he, hfin X w' G _ _ sc' cb' hX (Nat.le_refl _) hC hW hF', cell_at e9, cell_at e9⟩
  have CR := Lib.hid cR
  have CE := Lib.hid hce
  clear h e1 e2 e3 hFu hfin hn hs cR hce
  go_enter Try.func18, Try.ntmps18
  go_wp2_with fail
  refine cK.mono ?_
  rintro e w1 ⟨rfl, rfl⟩
  go_wp2_with fail
  have HK := Lib.hid (show Below w1.heap.size w1 w1.drew from (Below.refl _ _).drew)
  go_region_held3 (fun X => X.cell? ⟨vb, 0, none⟩ = some (.map (some cm)) ∧ X.cell? ⟨vb, 1, none⟩ = some (.int .i64 m.scope))
    (first | with_reducible exact CE.out _ HK.out | with_reducible exact HZ.out)
    (first
      | (go_at_call 48; (with_reducible refine (CR.out _ HK.out).mono ?_); rintro e wq ⟨rfl, hV, hz⟩; have HW := Lib.hid hV; have HZ := Lib.hid hz; clear hV hz))
  all_goals (go_wp2; go_ret; exact ⟨rfl, HW.out⟩)
theorem VWent.thn {w w2 w3 : World} {vb : Nat} {G G' : Nat → Nat} {m2 : Vs} (h1 : Keeps G w w2) (hz : ∀ k, k < w.heap.size → (G' k = 0 ↔ G k = 0)) (h2 : VWent w2 w3 vb G' m2) : VWent w w3 vb G m2 := by
  obtain ⟨hk, G2, h3, h4⟩ := h2
  have hs := h1.size
  exact ⟨h1.trans hk (fun k hk e => (hz k hk).2 e), G2, h3, fun k hk => (h4 k (Nat.lt_of_lt_of_le hk hs)).trans (hz k hk)⟩
def Vs.drop (m : Vs) (k : Nat) : Vs := { m with cells := updS m.cells k, scope := if m.scope = k then 0 else m.scope }
set_option maxHeartbeats 1000000 in
set_option maxRecDepth 100000 in
theorem drop_ok {w : World} {vb : Nat} {G : Nat → Nat} {m : Vs} (h : VarsAt w vb G m) (k : Nat) (h1 : 1 ≤ k) (h2 : k ≤ 65536) :
    Calls Try.prog 31 #[hptr vb, .int .i64 k] w fun e w' => e = .returned (.int .i64 0) ∧ VWent w w' vb G (m.drop k) := by
  obtain ⟨cm, mm, bv, sc, cb, e1, e2, e3, hFu, hfin⟩ := h.celled
  have c0 : w.cell? ⟨vb, 0, none⟩ = some (.map (some cm)) := cell_at e1
  have cV := h.valid
  have cS := isScope_yes k w h1 h2
  obtain ⟨w2, d2, hm2, hgr, hsz⟩ := e2.outer.drop Try.underlying54 k (by omega) 0
  obtain ⟨hK, G', hv2, hz⟩ := hfin w w2 G _ _ _ _ (Below.refl _ _) (Nat.le_refl _) (e2.unscoped hm2 hgr) (CWent.of_cm e2.lab h.new hgr) (fullDrop hFu k)
  obtain ⟨c1, f1, hsc⟩ := hv2.scopeCell
  have hV0 : VWent w w2 vb G { m with cells := updS m.cells k } := ⟨hK, G', hv2, hz⟩
  have hV1 := VWent.thn hK hz (hsc 0 (by decide))
  have c1' : w2.cell? ⟨vb, 1, none⟩ = some (.int .i64 m.scope) := c1
  unfold Vs.drop
  by_cases hks : m.scope = k
  · have hd : ((m.scope : Int) == (k : Int)) = true := by rw [beq_iff_eq]; omega
    rw [if_pos hks]
    have HV := Lib.hid hV1
    clear h h1 h2 e1 e2 e3 hFu hfin hm2 hgr hsz hK hv2 hz hsc hV0 hV1 c1 hks
    go_enter Try.func31, Try.ntmps31
    go_wp2_with fail
    refine cV.mono ?_
    rintro e w1 ⟨rfl, rfl⟩
    go_wp2_with fail
    refine cS.mono ?_
    rintro e w1 ⟨rfl, rfl⟩
    go_wp2
    go_ret
    exact ⟨rfl, HV.out⟩
  · have hd : ((m.scope : Int) == (k : Int)) = false := by rw [beq_eq_false_iff_ne]; omega
    rw [if_neg hks]
    have HV := Lib.hid hV0
    clear h h1 h2 e1 e2 e3 hFu hfin hm2 hgr hsz hK hv2 hz hsc hV0 hV1 c1
    go_enter Try.func31, Try.ntmps31
    go_wp2_with fail
    refine cV.mono ?_
    rintro e w1 ⟨rfl, rfl⟩
    go_wp2_with fail
    refine cS.mono ?_
    rintro e w1 ⟨rfl, rfl⟩
    go_wp2
    go_ret
    exact ⟨rfl, HV.out⟩
set_option maxHeartbeats 2000000 in
set_option maxRecDepth 100000 in
theorem local_ok {w : World} {vb : Nat} {G : Nat → Nat} {m : Vs} (h : VarsAt w vb G m) (n : Nat) (hn : n < 16384) (k : Nat) (h1 : 1 ≤ k) (h2 : k ≤ 65536) (hs : (m.cells k n).isSome = true) :
    Calls Try.prog 16 #[hptr vb, .int .i64 n, .int .i64 k] w fun e w' => e = .returned (.tuple #[wv (m.at k n).1, .bool (m.at k n).2]) ∧ Below w.heap.size w w' := by
  obtain ⟨cm, hR⟩ := h.gready
  have cI := islocal_ok (hR.vars _ (Below.refl _ _)) n hn k h1 h2
  rw [hs] at cI
  have HR := Lib.hid hR
  have CI := Lib.hid cI
  obtain ⟨x, hx⟩ : ∃ x, m.at k n = x := ⟨_, rfl⟩
  have cV := fun X hX => hR.value X k n hX h2 hn
  rw [hx] at cV
  rw [hx]
  have CV := Lib.hid cV
  clear h hn cI hR hx cV h1 h2 hs
  go_enter Try.func16, Try.ntmps16
  go_wp2_with fail
  generalize w.alloc (.cells #[.int .i64 0, .int .i64 0] 28) = wb at *
  refine CI.out.mono ?_
  rintro e w1 ⟨rfl, hb⟩
  have HK := Lib.hid hb
  clear hb
  have c0 := HR.out.cell _ HK.out
  go_wp2_with fail
  refine (CV.out _ HK.out).mono ?_
  rintro e w2 ⟨rfl, hb⟩
  have HK2 := Lib.hid (HK.out.trans (hb.mono HK.out.size))
  clear hb HK c0
  obtain ⟨z0, z1, f0, f1⟩ := HR.out.old HK2.out
  obtain ⟨d0, d1, d2, _⟩ := HR.out.put HK2.out x.1
  have HF := Lib.hid d2
  clear d2
  go_wp2
  refine bodyPost_ret (v := .tuple #[wv x.1, .bool x.2]) ?_ rfl ⟨rfl, HF.out⟩
  simp [results, Try.results16, go_sem, d0, d1]
end Go.Proofs.Ytgkblfegjmeolaa
