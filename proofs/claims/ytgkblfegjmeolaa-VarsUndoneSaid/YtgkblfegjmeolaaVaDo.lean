/- Every call on variables, at any arguments, in plain terms. -/
import Derived.Test.YtgkblfegjmeolaaVaErr2
import Derived.Test.YtgkblfegjmeolaaVaUnb2
import Derived.Test.YtgkblfegjmeolaaVaUnbBad
namespace Go.Proofs.Ytgkblfegjmeolaa
open Go.RowKit Go.Lib Go.Shelf
def Vs.markTo (m : Vs) (n v : Nat) : Vs := { m with marks := fun j => if j = n then v else m.marks j, cnt := m.cnt + 2 }
theorem VarsAt.markPut2 {w : World} {vb : Nat} {G : Nat → Nat} {m : Vs} (h : VarsAt w vb G m) (n v : Nat) (hn : n < 16384) (hc : m.cnt ≤ 1000000) (hv : v ≤ 3) (hv1 : 1 ≤ v) : ∃ cm mm w', w.cell? ⟨vb, 0, none⟩ = some (.map (some cm)) ∧ w.cell? ⟨vb, 2, none⟩ = some (.map (some mm)) ∧
    (Instr.lookup 55 (.map (some mm)) (.int .i64 (n : Int)) false).run Try.prog w = .ok (.int .u8 (m.marks n)) w ∧
    (Instr.mapUpdate 55 (.map (some mm)) (.int .i64 (n : Int)) (.int .u8 v)).run Try.prog w = .ok () w' ∧ VWent w w' vb G (m.markTo n v) := by
  obtain ⟨new, lab, sco, mrk, cm, mm, bv, sc, cb, bs, h1, h2, h3, h4, hF, h5, h6, h7⟩ := h
  obtain ⟨w', hrun, hput, hgr, hsz⟩ := h4.put Try.underlying55 (v := .int .u8 v) (d := .lit (.int .i64 v)) (p := []) (by omega) n (by omega) rfl
  refine ⟨cm, mm, w', cell_at h1, cell_at h1, mark_look h4 hn, hrun, ?_⟩
  have hoff : ∀ j, j < w.heap.size → G j ≠ 3 → w'.heap[j]? = w.heap[j]? := fun j hj e => hgr.block j hj (fun e2 => e (by cases e2; exact h2))
  have hput2 : MapF w' markE mm (m.cnt + 2) (markF (m.markTo n v).marks) := (hput.mono (by omega)).ext fun j => by
    unfold markF Vs.markTo
    by_cases e : j = n
    · simp [e, show v ≠ 0 by omega]
    · simp [e]
  refine ⟨⟨hgr.os, hgr.tape, hgr.output, hgr.size, fun j hj e => hoff j hj (by omega)⟩, G, ⟨fun j hj => new j (by omega), lab, sco, fun j => ?_, cm, mm, bv, sc, cb, bs, (hoff _ (lt_at h1) (by omega)).trans h1, h2, (h3.keep (fun j hj e => hoff j hj (by omega)) (fun _ _ _ => rfl)).mono (Nat.le_add_right _ 2), hput2, hF, h5, h6.keep (fun j hj e => hoff j hj (by omega)) (fun _ _ e => e), fun b hb => ?_⟩, fun _ _ => Iff.rfl⟩
  · show (if j = n then v else m.marks j) ≤ 3
    have := mrk j
    split <;> omega
  · obtain ⟨a1, a2, a3, a4, a5, a6⟩ := h7 b hb
    exact ⟨a1, a2, (hoff _ (lt_at a3) (by omega)).trans a3, (hoff _ (lt_at a4) (by omega)).trans a4, a5, a6⟩
def orS (v : Nat) : Nat := if v = 0 then 1 else if v = 2 then 3 else v
set_option maxHeartbeats 1000000 in
set_option maxRecDepth 100000 in
theorem markspecial_ok {w : World} {vb : Nat} {G : Nat → Nat} {m : Vs} (h : VarsAt w vb G m) (n : Nat) (hn : n < 16384) (hc : m.cnt ≤ 1000000) :
    Calls Try.prog 56 #[hptr vb, .int .i64 n] w fun e w' => e = .returned (.int .i64 0) ∧ VWent w w' vb G (m.markTo n (orS (m.marks n))) := by
  have hm := h.marks n
  have hx : m.marks n = 0 ∨ m.marks n = 1 ∨ m.marks n = 2 ∨ m.marks n = 3 := by omega
  have ho : orS (m.marks n) ≤ 3 ∧ 1 ≤ orS (m.marks n) := by
    unfold orS
    rcases hx with e | e | e | e <;> rw [e] <;> decide
  obtain ⟨cm, mm, w', c0, c2, hl, hrun, hV⟩ := h.markPut2 n (orS (m.marks n)) hn hc ho.1 ho.2
  have cK := check_ok vb cm n w hn c0
  have HV := Lib.hid hV
  have cA : Calls Try.prog 61 #[hptr vb, .int .i64 n, .int .u8 1] w fun e w' => e = .returned (.int .i64 0) ∧ VWent w w' vb G (m.markTo n (orS (m.marks n))) := by
    clear h hn hc c0 hV hm ho
    have b0 : bits BinOp.or IntKind.u8 0 1 = 1 := by decide +kernel
    have b1 : bits BinOp.or IntKind.u8 1 1 = 1 := by decide +kernel
    have b2 : bits BinOp.or IntKind.u8 2 1 = 3 := by decide +kernel
    have b3 : bits BinOp.or IntKind.u8 3 1 = 3 := by decide +kernel
    generalize m.marks n = v at hl hx hrun HV ⊢
    rcases hx with rfl | rfl | rfl | rfl
    · have hr : (Instr.mapUpdate 55 (.map (some mm)) (.int .i64 (n : Int)) (.int .u8 1)).run Try.prog w = .ok () w' := hrun
      clear hrun
      go_enter Try.func61, Try.ntmps61
      go_wp2_with fail
      refine cK.mono ?_
      rintro e w1 ⟨rfl, rfl⟩
      go_wp2
      go_ret
      exact ⟨rfl, HV.out⟩
    · have hr : (Instr.mapUpdate 55 (.map (some mm)) (.int .i64 (n : Int)) (.int .u8 1)).run Try.prog w = .ok () w' := hrun
      clear hrun
      go_enter Try.func61, Try.ntmps61
      go_wp2_with fail
      refine cK.mono ?_
      rintro e w1 ⟨rfl, rfl⟩
      go_wp2
      go_ret
      exact ⟨rfl, HV.out⟩
    · have hr : (Instr.mapUpdate 55 (.map (some mm)) (.int .i64 (n : Int)) (.int .u8 3)).run Try.prog w = .ok () w' := hrun
      clear hrun
      go_enter Try.func61, Try.ntmps61
      go_wp2_with fail
      refine cK.mono ?_
      rintro e w1 ⟨rfl, rfl⟩
      go_wp2
      go_ret
      exact ⟨rfl, HV.out⟩
    · have hr : (Instr.mapUpdate 55 (.map (some mm)) (.int .i64 (n : Int)) (.int .u8 3)).run Try.prog w = .ok () w' := hrun
      clear hrun
      go_enter Try.func61, Try.ntmps61
      go_wp2_with fail
      refine cK.mono ?_
      rintro e w1 ⟨rfl, rfl⟩
      go_wp2
      go_ret
      exact ⟨rfl, HV.out⟩
  have CA := Lib.hid cA
  clear h hn hc c0 c2 hV hm hx cA cK hl hrun ho
  go_enter Try.func56, Try.ntmps56
  go_wp2_with fail
  refine CA.out.mono ?_
  rintro e W ⟨rfl, hv⟩
  have HW := Lib.hid hv
  clear hv CA HV
  go_wp2
  go_ret
  exact ⟨rfl, HW.out⟩
/-! The calls, at any arguments. -/
def inV (n : Int) : Bool := decide (0 ≤ n) && decide (n < 16384)
def inS (k : Int) : Bool := decide (1 ≤ k) && decide (k ≤ 65536)
theorem inV_no {n : Int} (h : ¬ inV n = true) : n < 0 ∨ 16384 ≤ n := by
  simp only [inV, Bool.and_eq_true, decide_eq_true_eq] at h
  omega
theorem inV_yes {n : Int} (h : inV n = true) : ∃ k : Nat, n = (k : Int) ∧ n.toNat = k ∧ k < 16384 := by
  simp only [inV, Bool.and_eq_true, decide_eq_true_eq] at h
  exact ⟨n.toNat, by omega, rfl, by omega⟩
theorem inS_yes {k : Int} (h : inS k = true) : ∃ j : Nat, k = (j : Int) ∧ k.toNat = j ∧ 1 ≤ j ∧ j ≤ 65536 := by
  simp only [inS, Bool.and_eq_true, decide_eq_true_eq] at h
  exact ⟨k.toNat, by omega, rfl, by omega, by omega⟩
def chg (m : Vs) (n : Int) (r : Vs × Int) : Vs × Int := if ¬ inV n = true then (m, 8) else if hasC (m.marks n.toNat) = true then (m, 10) else r
def Vs.setI (m : Vs) (n : Int) (x : Wd) : Vs × Int := chg m n (m.put (m.home n.toNat) n.toNat (x, true), 0)
def Vs.clearI (m : Vs) (n : Int) : Vs × Int := chg m n (m.put (m.home n.toNat) n.toNat noC, 0)
def Vs.setDI (m : Vs) (n : Int) (x : Wd) : Vs × Int := chg m n (m.put 0 n.toNat (x, true), 0)
def Vs.bindI (m : Vs) (n : Int) (x : Wd) : Vs × Int := chg m n (if m.binds.length = 2000 then (m, 12) else ((m.bound (m.home n.toNat) n.toNat).put (m.home n.toNat) n.toNat (x, true), 0))
def Vs.makeI (m : Vs) (n : Int) : Vs × Int := chg m n (if m.scope = 0 then (m, 9) else (m.makeLocal n.toNat, 0))
def Vs.killI (m : Vs) (n : Int) : Vs × Int := if ¬ inV n = true then (m, 8) else if m.scope = 0 then (m, 9) else (m.kill n.toNat, 0)
def Vs.markSI (m : Vs) (n : Int) : Vs × Int := if ¬ inV n = true then (m, 8) else (m.markTo n.toNat (orS (m.marks n.toNat)), 0)
def Vs.markCI (m : Vs) (n : Int) : Vs × Int := if ¬ inV n = true then (m, 8) else (m.mark n.toNat, 0)
def Vs.setLI (m : Vs) (n k : Int) (x : Wd) : Vs × Int := if ¬ inV n = true then (m, 8) else if ¬ inS k = true then (m, 3) else if hasC (m.marks n.toNat) = true then (m, 10) else (m.put k.toNat n.toNat (x, true), 0)
def Vs.unbindI (m : Vs) (d : Int) : Vs × Int := if d < 0 ∨ (m.binds.length : Int) < d then (m, 3) else (m.unbind d.toNat, 0)
def Vs.scopeI (m : Vs) (k : Int) : Vs × Int := if k = 0 then ({ m with scope := 0 }, 0) else if ¬ inS k = true then (m, 3) else ({ m with scope := k.toNat }, 0)
def Vs.dropI (m : Vs) (k : Int) : Vs × Int := if ¬ inS k = true then (m, 3) else (m.drop k.toNat, 0)
/-- What such a call gives: its number, and the variables as they then are. -/
abbrev Gives (w : World) (vb : Nat) (G : Nat → Nat) (f : Nat) (args : Array Value) (r : Vs × Int) : Prop := Calls Try.prog f args w fun e w' => e = .returned (.int .i64 r.2) ∧ VWent w w' vb G r.1
theorem Gives.same {w : World} {vb : Nat} {G : Nat → Nat} {m : Vs} {f : Nat} {args : Array Value} {er : Int} (h : VarsAt w vb G m) (c : Calls Try.prog f args w fun e w' => e = .returned (.int .i64 er) ∧ Below w.heap.size w w') : Gives w vb G f args (m, er) :=
  c.mono fun _ _ ⟨h1, h2⟩ => ⟨h1, VWent.of_below h h2⟩
section
variable {w : World} {vb : Nat} {G : Nat → Nat} {m : Vs} (h : VarsAt w vb G m) (hc : m.cnt ≤ 1000000)
include h hc
theorem setI_any (n : Int) (x : Wd) : Gives w vb G 14 #[hptr vb, .int .i64 n, wv x] (m.setI n x) := by
  unfold Vs.setI chg
  split
  · rename_i hn
    exact .same h (set_err _ n x 8 w (by decide) fun W hW => change_bad (h.below hW) n (inV_no hn))
  · rename_i hn
    obtain ⟨k, rfl, hk, hl⟩ := inV_yes (by simpa using hn)
    rw [hk]
    split
    · rename_i hC
      exact .same h (set_const h k hl hC x)
    · rename_i hC
      exact set_ok h k hl hc (by simpa using hC) x
theorem clearI_any (n : Int) : Gives w vb G 35 #[hptr vb, .int .i64 n] (m.clearI n) := by
  unfold Vs.clearI chg
  split
  · rename_i hn
    exact .same h (clear_err _ n 8 w (by decide) (change_bad h n (inV_no hn)))
  · rename_i hn
    obtain ⟨k, rfl, hk, hl⟩ := inV_yes (by simpa using hn)
    rw [hk]
    split
    · rename_i hC
      exact .same h (clear_const h k hl hC)
    · rename_i hC
      exact clear_ok h k hl hc (by simpa using hC)
theorem setDI_any (n : Int) (x : Wd) : Gives w vb G 10 #[hptr vb, .int .i64 n, wv x] (m.setDI n x) := by
  unfold Vs.setDI chg
  split
  · rename_i hn
    exact .same h (setdef_err _ n x 8 w (by decide) fun W hW => change_bad (h.below hW) n (inV_no hn))
  · rename_i hn
    obtain ⟨k, rfl, hk, hl⟩ := inV_yes (by simpa using hn)
    rw [hk]
    split
    · rename_i hC
      exact .same h (setdef_const h k hl hC x)
    · rename_i hC
      exact setdef_ok h k hl hc (by simpa using hC) x
theorem bindI_any (hb : m.binds.length ≤ 2000) (n : Int) (x : Wd) : Gives w vb G 17 #[hptr vb, .int .i64 n, wv x] (m.bindI n x) := by
  unfold Vs.bindI chg
  split
  · rename_i hn
    exact .same h (bind_err _ n x 8 w (by decide) fun W hW => change_bad (h.below hW) n (inV_no hn))
  · rename_i hn
    obtain ⟨k, rfl, hk, hl⟩ := inV_yes (by simpa using hn)
    rw [hk]
    split
    · rename_i hC
      exact .same h (bind_const h k hl hC x)
    · rename_i hC
      split
      · rename_i hf
        exact .same h (bind_full h k hl (by simpa using hC) x hf)
      · rename_i hf
        exact bind_ok h k hl hc (by simpa using hC) x (by omega)
theorem makeI_any (n : Int) : Gives w vb G 13 #[hptr vb, .int .i64 n] (m.makeI n) := by
  unfold Vs.makeI chg
  split
  · rename_i hn
    exact .same h (makelocal_err _ n 8 w (by decide) (change_bad h n (inV_no hn)))
  · rename_i hn
    obtain ⟨k, rfl, hk, hl⟩ := inV_yes (by simpa using hn)
    rw [hk]
    split
    · rename_i hC
      exact .same h (makelocal_const h k hl hC)
    · rename_i hC
      split
      · rename_i hs
        exact .same h (makelocal_state h k hl (by simpa using hC) hs)
      · rename_i hs
        exact makelocal_ok h k hl hc (by simpa using hC) (by omega)
theorem markSI_any (n : Int) : Gives w vb G 56 #[hptr vb, .int .i64 n] (m.markSI n) := by
  unfold Vs.markSI
  split
  · rename_i hn
    exact .same h (markspecial_err _ n 8 w (by decide) (check_at h n (inV_no hn)))
  · rename_i hn
    obtain ⟨k, rfl, hk, hl⟩ := inV_yes (by simpa using hn)
    rw [hk]
    exact markspecial_ok h k hl hc
theorem markCI_any (n : Int) : Gives w vb G 34 #[hptr vb, .int .i64 n] (m.markCI n) := by
  unfold Vs.markCI
  split
  · rename_i hn
    exact .same h (markconst_err _ n 8 w (by decide) (check_at h n (inV_no hn)))
  · rename_i hn
    obtain ⟨k, rfl, hk, hl⟩ := inV_yes (by simpa using hn)
    rw [hk]
    exact markconst_ok h k hl hc
theorem setLI_any (n k : Int) (x : Wd) : Gives w vb G 21 #[hptr vb, .int .i64 n, .int .i64 k, wv x] (m.setLI n k x) := by
  unfold Vs.setLI
  split
  · rename_i hn
    exact .same h (setlocal_err _ n k x 8 w (by decide) fun W hW => check_at (h.below hW) n (inV_no hn))
  · rename_i hn
    obtain ⟨a, rfl, ha, hl⟩ := inV_yes (by simpa using hn)
    rw [ha]
    split
    · rename_i hk
      exact .same h (setlocal_range h a hl k (by simpa [inS] using hk) x)
    · rename_i hk
      obtain ⟨j, rfl, hj, h1, h2⟩ := inS_yes (by simpa using hk)
      rw [hj]
      split
      · rename_i hC
        exact .same h (setlocal_const h a hl hC j h1 h2 x)
      · rename_i hC
        exact setlocal_ok h a hl hc (by simpa using hC) j h1 h2 x
end
section
variable {w : World} {vb : Nat} {G : Nat → Nat} {m : Vs} (h : VarsAt w vb G m)
include h
theorem killI_any (n : Int) : Gives w vb G 18 #[hptr vb, .int .i64 n] (m.killI n) := by
  unfold Vs.killI
  split
  · rename_i hn
    exact .same h (killlocal_err _ n 8 w (by decide) (check_at h n (inV_no hn)))
  · rename_i hn
    obtain ⟨k, rfl, hk, hl⟩ := inV_yes (by simpa using hn)
    rw [hk]
    split
    · rename_i hs
      exact .same h (killlocal_state h k hl hs)
    · rename_i hs
      exact killlocal_ok h k hl (by omega)
theorem scopeI_any (k : Int) : Gives w vb G 12 #[hptr vb, .int .i64 k] (m.scopeI k) := by
  unfold Vs.scopeI
  split
  · rename_i hk
    subst hk
    exact setscope_0 h
  · rename_i h0
    split
    · rename_i hk
      exact .same h (setscope_bad h k h0 (by simpa [inS] using hk))
    · rename_i hk
      obtain ⟨j, rfl, hj, h1, h2⟩ := inS_yes (by simpa using hk)
      rw [hj]
      exact setscope_ok h j h1 h2
theorem dropI_any (k : Int) : Gives w vb G 31 #[hptr vb, .int .i64 k] (m.dropI k) := by
  unfold Vs.dropI
  split
  · rename_i hk
    exact .same h (drop_bad h k (by simpa [inS] using hk))
  · rename_i hk
    obtain ⟨j, rfl, hj, h1, h2⟩ := inS_yes (by simpa using hk)
    rw [hj]
    exact drop_ok h j h1 h2
end
end Go.Proofs.Ytgkblfegjmeolaa
