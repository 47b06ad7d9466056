/- do: an act on variables. -/
import Derived.Test.YtgkblfegjmeolaaVaDo
namespace Go.Proofs.Ytgkblfegjmeolaa
open Go.RowKit Go.Lib Go.Shelf
section
attribute [local go_sem] Oper.semAt_some
set_option maxRecDepth 100000 in
set_option maxHeartbeats 1000000 in
theorem unbind_neg {w : World} {vb : Nat} {G : Nat → Nat} {m : Vs} (h : VarsAt w vb G m) (d : Int) (hd : d < 0) :
    Calls Try.prog 19 #[hptr vb, .int .i64 d] w fun e w' => e = .returned (.int .i64 3) ∧ Below w.heap.size w w' := by
  have hb1 : Below w.heap.size w (w.alloc (.cells #[hptr vb] 23)) := (Below.refl _ _).alloc (Nat.le_refl _) _
  have hv1 := h.below hb1
  have cV := hv1.valid
  have a0 := alloc_at w (.cells #[hptr vb] 23)
  have b0 : (w.alloc (.cells #[hptr vb] 23)).cell? ⟨w.heap.size, 0, none⟩ = some (hptr vb) := cell_at a0
  have hd0 : decide (d < 0) = true := by simpa using hd
  have HV := Lib.hid cV
  clear h hb1 hv1 cV a0 hd
  refine (callsIn_wide (n := 6)).1 ?_
  refine callsIn_of_wp_marks Try.func19 rfl trivial ?_ rfl
  simp only [Try.ntmps19, List.size_toArray, List.length_cons, List.length_nil, Nat.reduceAdd, Nat.reduceSub, Array.replicate_succ, Array.replicate_zero, List.push_toArray, List.append_toArray, List.nil_append, List.cons_append]
  refine wpIn_wide.2 ?_
  go_wp2_with fail
  refine HV.out.mono ?_
  rintro e w1 ⟨rfl, rfl⟩
  go_wp2
  exact ⟨_, results_tmp rfl _ _ _, rfl, (Below.refl _ _).alloc (Nat.le_refl _) _⟩
end
theorem unbindI_any {w : World} {vb : Nat} {G : Nat → Nat} {m : Vs} (h : VarsAt w vb G m) (hb : m.binds.length ≤ 2000) (d : Int) : Gives w vb G 19 #[hptr vb, .int .i64 d] (m.unbindI d) := by
  unfold Vs.unbindI
  split
  · rename_i hd
    by_cases hn : d < 0
    · exact .same h (unbind_neg h d hn)
    · obtain ⟨k, rfl⟩ : ∃ k : Nat, d = (k : Int) := ⟨d.toNat, by omega⟩
      exact .same h (unbind_bad h k (by omega))
  · rename_i hd
    obtain ⟨k, rfl⟩ : ∃ k : Nat, d = (k : Int) := ⟨d.toNat, by omega⟩
    exact unbind_ok h k (by omega) hb
/-- An act. -/
structure AW where
  kind : Int
  n : Int
  k : Int
  w : Wd
abbrev av (a : AW) : Value := .agg #[.int .i64 a.kind, .int .i64 a.n, .int .i64 a.k, .int .i64 a.w.1, .int .i64 a.w.2]
def Vs.actK (m : Vs) (q n k : Int) (x : Wd) : Vs × Int :=
  if q = 0 then m.setI n x else if q = 1 then m.clearI n else if q = 2 then m.markSI n else if q = 3 then m.markCI n else if q = 4 ∨ q = 5 then m.bindI n x else if q = 6 then m.unbindI k
  else if q = 7 then m.scopeI k else if q = 8 then m.makeI n else if q = 9 then m.killI n else if q = 10 then m.setLI n k x else if q = 11 then m.setDI n x else if q = 12 then m.dropI k else (m, 0)
def Vs.act (m : Vs) (a : AW) : Vs × Int := m.actK (pickZ a.kind 14) a.n a.k a.w
set_option maxRecDepth 100000 in
set_option maxHeartbeats 8000000 in
theorem do_any {w : World} {vb : Nat} {G : Nat → Nat} {m : Vs} (h : VarsAt w vb G m) (hc : m.cnt ≤ 1000000) (hb : m.binds.length ≤ 2000) (a : AW) : Gives w vb G 26 #[hptr vb, av a] (m.act a) := by
  obtain ⟨kind, n, k, x⟩ := a
  obtain ⟨q0, q1⟩ := pickZ_in kind 14 (by decide)
  have cP := fun W => pick_any kind 14 W (by decide) (by decide)
  have hact : m.act ⟨kind, n, k, x⟩ = m.actK (pickZ kind 14) n k x := rfl
  rw [hact]
  clear hact
  generalize pickZ kind 14 = q at *
  have hbw : Below w.heap.size w (w.alloc (.cells #[.int .i64 kind, .int .i64 n, .int .i64 k, .int .i64 x.1, .int .i64 x.2] 41)) := (Below.refl _ _).alloc (Nat.le_refl _) _
  have a0 := alloc_at w (.cells #[.int .i64 kind, .int .i64 n, .int .i64 k, .int .i64 x.1, .int .i64 x.2] 41)
  have hv := h.below hbw
  have u0 := (cell_at (i := 0) a0).trans (show _ = some (.int .i64 kind) from rfl)
  have u1 := (cell_at (i := 1) a0).trans (show _ = some (.int .i64 n) from rfl)
  have u2 := (cell_at (i := 2) a0).trans (show _ = some (.int .i64 k) from rfl)
  have u3 := (cell_at (i := 3) a0).trans (show _ = some (.int .i64 x.1) from rfl)
  have u4 := (cell_at (i := 4) a0).trans (show _ = some (.int .i64 x.2) from rfl)
  have HB := Lib.hid hbw
  have HH := Lib.hid h
  have CP := Lib.hid cP
  have hq : q = 0 ∨ q = 1 ∨ q = 2 ∨ q = 3 ∨ q = 4 ∨ q = 5 ∨ q = 6 ∨ q = 7 ∨ q = 8 ∨ q = 9 ∨ q = 10 ∨ q = 11 ∨ q = 12 ∨ q = 13 := by omega
  clear hbw a0 cP q0 q1 h
  rcases hq with rfl | rfl | rfl | rfl | rfl | rfl | rfl | rfl | rfl | rfl | rfl | rfl | rfl | rfl
  · have e9 : m.actK 0 n k x = m.setI n x := rfl
    rw [e9]
    clear e9
    have HC := Lib.hid (setI_any hv hc n x)
    clear hv hc hb
    go_enter Try.func26, Try.ntmps26
    go_wp2_with fail
    generalize w.alloc (.cells #[.int .i64 kind, .int .i64 n, .int .i64 k, .int .i64 x.1, .int .i64 x.2] 41) = wb at *
    refine (CP.out _).mono ?_
    rintro e W0 ⟨rfl, rfl⟩
    go_wp2_with fail
    refine HC.out.mono ?_
    rintro e W ⟨rfl, hV⟩
    have HV := Lib.hid (VWent.after HB.out hV)
    clear hV HC
    go_wp2
    go_ret
    exact ⟨rfl, HV.out⟩
  · have e9 : m.actK 1 n k x = m.clearI n := rfl
    rw [e9]
    clear e9
    have HC := Lib.hid (clearI_any hv hc n)
    clear hv hc hb
    go_enter Try.func26, Try.ntmps26
    go_wp2_with fail
    generalize w.alloc (.cells #[.int .i64 kind, .int .i64 n, .int .i64 k, .int .i64 x.1, .int .i64 x.2] 41) = wb at *
    refine (CP.out _).mono ?_
    rintro e W0 ⟨rfl, rfl⟩
    go_wp2_with fail
    refine HC.out.mono ?_
    rintro e W ⟨rfl, hV⟩
    have HV := Lib.hid (VWent.after HB.out hV)
    clear hV HC
    go_wp2
    go_ret
    exact ⟨rfl, HV.out⟩
  · have e9 : m.actK 2 n k x = m.markSI n := rfl
    rw [e9]
    clear e9
    have HC := Lib.hid (markSI_any hv hc n)
    clear hv hc hb
    go_enter Try.func26, Try.ntmps26
    go_wp2_with fail
    generalize w.alloc (.cells #[.int .i64 kind, .int .i64 n, .int .i64 k, .int .i64 x.1, .int .i64 x.2] 41) = wb at *
    refine (CP.out _).mono ?_
    rintro e W0 ⟨rfl, rfl⟩
    go_wp2_with fail
    refine HC.out.mono ?_
    rintro e W ⟨rfl, hV⟩
    have HV := Lib.hid (VWent.after HB.out hV)
    clear hV HC
    go_wp2
    go_ret
    exact ⟨rfl, HV.out⟩
  · have e9 : m.actK 3 n k x = m.markCI n := rfl
    rw [e9]
    clear e9
    have HC := Lib.hid (markCI_any hv hc n)
    clear hv hc hb
    go_enter Try.func26, Try.ntmps26
    go_wp2_with fail
    generalize w.alloc (.cells #[.int .i64 kind, .int .i64 n, .int .i64 k, .int .i64 x.1, .int .i64 x.2] 41) = wb at *
    refine (CP.out _).mono ?_
    rintro e W0 ⟨rfl, rfl⟩
    go_wp2_with fail
    refine HC.out.mono ?_
    rintro e W ⟨rfl, hV⟩
    have HV := Lib.hid (VWent.after HB.out hV)
    clear hV HC
    go_wp2
    go_ret
    exact ⟨rfl, HV.out⟩
  · have e9 : m.actK 4 n k x = m.bindI n x := rfl
    rw [e9]
    clear e9
    have HC := Lib.hid (bindI_any hv hc hb n x)
    clear hv hc hb
    go_enter Try.func26, Try.ntmps26
    go_wp2_with fail
    generalize w.alloc (.cells #[.int .i64 kind, .int .i64 n, .int .i64 k, .int .i64 x.1, .int .i64 x.2] 41) = wb at *
    refine (CP.out _).mono ?_
    rintro e W0 ⟨rfl, rfl⟩
    go_wp2_with fail
    refine HC.out.mono ?_
    rintro e W ⟨rfl, hV⟩
    have HV := Lib.hid (VWent.after HB.out hV)
    clear hV HC
    go_wp2
    go_ret
    exact ⟨rfl, HV.out⟩
  · have e9 : m.actK 5 n k x = m.bindI n x := rfl
    rw [e9]
    clear e9
    have HC := Lib.hid (bindI_any hv hc hb n x)
    clear hv hc hb
    go_enter Try.func26, Try.ntmps26
    go_wp2_with fail
    generalize w.alloc (.cells #[.int .i64 kind, .int .i64 n, .int .i64 k, .int .i64 x.1, .int .i64 x.2] 41) = wb at *
    refine (CP.out _).mono ?_
    rintro e W0 ⟨rfl, rfl⟩
    go_wp2_with fail
    refine HC.out.mono ?_
    rintro e W ⟨rfl, hV⟩
    have HV := Lib.hid (VWent.after HB.out hV)
    clear hV HC
    go_wp2
    go_ret
    exact ⟨rfl, HV.out⟩
  · have e9 : m.actK 6 n k x = m.unbindI k := rfl
    rw [e9]
    clear e9
    have HC := Lib.hid (unbindI_any hv hb k)
    clear hv hc hb
    go_enter Try.func26, Try.ntmps26
    go_wp2_with fail
    generalize w.alloc (.cells #[.int .i64 kind, .int .i64 n, .int .i64 k, .int .i64 x.1, .int .i64 x.2] 41) = wb at *
    refine (CP.out _).mono ?_
    rintro e W0 ⟨rfl, rfl⟩
    go_wp2_with fail
    refine HC.out.mono ?_
    rintro e W ⟨rfl, hV⟩
    have HV := Lib.hid (VWent.after HB.out hV)
    clear hV HC
    go_wp2
    go_ret
    exact ⟨rfl, HV.out⟩
  · have e9 : m.actK 7 n k x = m.scopeI k := rfl
    rw [e9]
    clear e9
    have HC := Lib.hid (scopeI_any hv k)
    clear hv hc hb
    go_enter Try.func26, Try.ntmps26
    go_wp2_with fail
    generalize w.alloc (.cells #[.int .i64 kind, .int .i64 n, .int .i64 k, .int .i64 x.1, .int .i64 x.2] 41) = wb at *
    refine (CP.out _).mono ?_
    rintro e W0 ⟨rfl, rfl⟩
    go_wp2_with fail
    refine HC.out.mono ?_
    rintro e W ⟨rfl, hV⟩
    have HV := Lib.hid (VWent.after HB.out hV)
    clear hV HC
    go_wp2
    go_ret
    exact ⟨rfl, HV.out⟩
  · have e9 : m.actK 8 n k x = m.makeI n := rfl
    rw [e9]
    clear e9
    have HC := Lib.hid (makeI_any hv hc n)
    clear hv hc hb
    go_enter Try.func26, Try.ntmps26
    go_wp2_with fail
    generalize w.alloc (.cells #[.int .i64 kind, .int .i64 n, .int .i64 k, .int .i64 x.1, .int .i64 x.2] 41) = wb at *
    refine (CP.out _).mono ?_
    rintro e W0 ⟨rfl, rfl⟩
    go_wp2_with fail
    refine HC.out.mono ?_
    rintro e W ⟨rfl, hV⟩
    have HV := Lib.hid (VWent.after HB.out hV)
    clear hV HC
    go_wp2
    go_ret
    exact ⟨rfl, HV.out⟩
  · have e9 : m.actK 9 n k x = m.killI n := rfl
    rw [e9]
    clear e9
    have HC := Lib.hid (killI_any hv n)
    clear hv hc hb
    go_enter Try.func26, Try.ntmps26
    go_wp2_with fail
    generalize w.alloc (.cells #[.int .i64 kind, .int .i64 n, .int .i64 k, .int .i64 x.1, .int .i64 x.2] 41) = wb at *
    refine (CP.out _).mono ?_
    rintro e W0 ⟨rfl, rfl⟩
    go_wp2_with fail
    refine HC.out.mono ?_
    rintro e W ⟨rfl, hV⟩
    have HV := Lib.hid (VWent.after HB.out hV)
    clear hV HC
    go_wp2
    go_ret
    exact ⟨rfl, HV.out⟩
  · have e9 : m.actK 10 n k x = m.setLI n k x := rfl
    rw [e9]
    clear e9
    have HC := Lib.hid (setLI_any hv hc n k x)
    clear hv hc hb
    go_enter Try.func26, Try.ntmps26
    go_wp2_with fail
    generalize w.alloc (.cells #[.int .i64 kind, .int .i64 n, .int .i64 k, .int .i64 x.1, .int .i64 x.2] 41) = wb at *
    refine (CP.out _).mono ?_
    rintro e W0 ⟨rfl, rfl⟩
    go_wp2_with fail
    refine HC.out.mono ?_
    rintro e W ⟨rfl, hV⟩
    have HV := Lib.hid (VWent.after HB.out hV)
    clear hV HC
    go_wp2
    go_ret
    exact ⟨rfl, HV.out⟩
  · have e9 : m.actK 11 n k x = m.setDI n x := rfl
    rw [e9]
    clear e9
    have HC := Lib.hid (setDI_any hv hc n x)
    clear hv hc hb
    go_enter Try.func26, Try.ntmps26
    go_wp2_with fail
    generalize w.alloc (.cells #[.int .i64 kind, .int .i64 n, .int .i64 k, .int .i64 x.1, .int .i64 x.2] 41) = wb at *
    refine (CP.out _).mono ?_
    rintro e W0 ⟨rfl, rfl⟩
    go_wp2_with fail
    refine HC.out.mono ?_
    rintro e W ⟨rfl, hV⟩
    have HV := Lib.hid (VWent.after HB.out hV)
    clear hV HC
    go_wp2
    go_ret
    exact ⟨rfl, HV.out⟩
  · have e9 : m.actK 12 n k x = m.dropI k := rfl
    rw [e9]
    clear e9
    have HC := Lib.hid (dropI_any hv k)
    clear hv hc hb
    go_enter Try.func26, Try.ntmps26
    go_wp2_with fail
    generalize w.alloc (.cells #[.int .i64 kind, .int .i64 n, .int .i64 k, .int .i64 x.1, .int .i64 x.2] 41) = wb at *
    refine (CP.out _).mono ?_
    rintro e W0 ⟨rfl, rfl⟩
    go_wp2_with fail
    refine HC.out.mono ?_
    rintro e W ⟨rfl, hV⟩
    have HV := Lib.hid (VWent.after HB.out hV)
    clear hV HC
    go_wp2
    go_ret
    exact ⟨rfl, HV.out⟩
  · have e9 : m.actK 13 n k x = (m, 0) := rfl
    rw [e9]
    clear e9
    clear hv hc hb
    go_enter Try.func26, Try.ntmps26
    go_wp2_with fail
    generalize w.alloc (.cells #[.int .i64 kind, .int .i64 n, .int .i64 k, .int .i64 x.1, .int .i64 x.2] 41) = wb at *
    refine (CP.out _).mono ?_
    rintro e W0 ⟨rfl, rfl⟩
    go_wp2
    go_ret
    exact ⟨rfl, VWent.of_below HH.out HB.out⟩
end Go.Proofs.Ytgkblfegjmeolaa
