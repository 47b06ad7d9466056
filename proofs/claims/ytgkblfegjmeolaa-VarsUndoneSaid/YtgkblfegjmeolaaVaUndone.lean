/- VarsUndone: the walk. -/
import Derived.Test.YtgkblfegjmeolaaVaUK
import Derived.Test.YtgkblfegjmeolaaVaLives
import Derived.Test.YtgkblfegjmeolaaVaWGet2
import Derived.Deep.RegionHeld3
import Derived.Deep.QuietTactic
import Derived.BigQuiet
namespace Go.Proofs.Ytgkblfegjmeolaa
open Go.RowKit Go.Lib Go.Shelf
theorem Fine.start : Fine vsN ∧ vsN.cnt ≤ 10 ∧ vsN.binds.length = 0 := by
  refine ⟨⟨Nat.zero_le _, fun k n h => ?_⟩, by decide, rfl⟩
  have h2 : (upd (upd (fun _ _ => none) 0 0 _) 0 1 _ k n).isSome = true := h
  unfold upd at h2
  split at h2
  · omega
  · split at h2
    · omega
    · cases h2
theorem Fine.scopeI {m : Vs} (h : Fine m) (k : Int) : Step1 m (m.scopeI k).1 :=
  ite1 (fun _ => h.to 0 (Nat.zero_le _)) fun _ => ite1 (fun _ => h.step) fun q => h.to _ (inS_le (Decidable.not_not.1 q))
theorem Und.scopeI {m0 m : Vs} {E : List (Nat × Nat × Cl)} {bnd : List (Nat × Nat)} (h : Und m0 m E bnd) (k : Int) : Und m0 (m.scopeI k).1 E bnd := by
  unfold Vs.scopeI
  by_cases h1 : k = 0
  · rw [if_pos h1]; exact h.scope 0
  · rw [if_neg h1]
    by_cases h2 : ¬ inS k = true
    · rw [if_pos h2]; exact h
    · rw [if_neg h2]; exact h.scope _
theorem scopeI_binds (m : Vs) (k : Int) : (m.scopeI k).1.binds = m.binds := by
  unfold Vs.scopeI
  by_cases h1 : k = 0
  · rw [if_pos h1]
  · rw [if_neg h1]
    by_cases h2 : ¬ inS k = true
    · rw [if_pos h2]
    · rw [if_neg h2]
theorem unbindI_at {m : Vs} {d : Nat} (h : d ≤ m.binds.length) : m.unbindI (d : Int) = (m.unbind d, 0) := by
  unfold Vs.unbindI
  rw [if_neg (by omega)]
  rfl
theorem scopeI_at {m : Vs} {k : Nat} (h : k ≤ 65536) : m.scopeI (k : Int) = ({ m with scope := k }, 0) := by
  unfold Vs.scopeI
  by_cases h1 : (k : Int) = 0
  · rw [if_pos h1]
    have : k = 0 := Int.ofNat.inj h1
    rw [this]
  · rw [if_neg h1, if_neg (not_not_intro (by
      unfold inS
      refine Bool.and_eq_true_iff.2 ⟨decide_eq_true ?_, decide_eq_true (Int.ofNat_le.2 h)⟩
      have : k ≠ 0 := fun e => h1 (by rw [e]; rfl)
      exact Int.ofNat_le.2 (Nat.pos_of_ne_zero this)))]
    rfl
theorem gt_same {m m0 : Vs} (h1 : ∀ k n, m.at k n = m0.at k n) (h2 : ∀ k n, 1 ≤ k → (m.cells k n).isSome = (m0.cells k n).isSome) (e : m.scope = m0.scope) (n : Int) : gt m n = gt m0 n := by
  unfold gt
  rw [home_same h2 e, h1]
theorem bindI_cases (m : Vs) (n : Int) (x : Wd) : (∃ k : Nat, n = (k : Int) ∧ k < 16384 ∧ m.bindI n x = ((m.bound (m.home k) k).put (m.home k) k (x, true), 0)) ∨ ∃ er : Int, er ≠ 0 ∧ m.bindI n x = (m, er) := by
  unfold Vs.bindI chg
  by_cases h1 : ¬ inV n = true
  · rw [if_pos h1]
    exact .inr ⟨8, by decide, rfl⟩
  · rw [if_neg h1]
    by_cases h2 : hasC (m.marks n.toNat) = true
    · rw [if_pos h2]
      exact .inr ⟨10, by decide, rfl⟩
    · rw [if_neg h2]
      by_cases h3 : m.binds.length = 2000
      · rw [if_pos h3]
        exact .inr ⟨12, by decide, rfl⟩
      · rw [if_neg h3]
        have h1 := Decidable.not_not.1 h1
        unfold inV at h1
        obtain ⟨g1, g2⟩ := Bool.and_eq_true_iff.1 h1
        obtain ⟨k, rfl⟩ := Int.eq_ofNat_of_zero_le (of_decide_eq_true g1)
        exact .inl ⟨k, rfl, Int.ofNat_lt.1 (of_decide_eq_true g2), rfl⟩
theorem act_0 {m : Vs} {a : AW} (h : pickZ a.kind 14 = 0) : m.act a = m.setI a.n a.w := by
  unfold Vs.act
  rw [h]
  rfl
theorem act_1 {m : Vs} {a : AW} (h : pickZ a.kind 14 = 1) : m.act a = m.clearI a.n := by
  unfold Vs.act
  rw [h]
  rfl
theorem Und.chgd {m0 m : Vs} {E : List (Nat × Nat × Cl)} {bnd : List (Nat × Nat)} (h : Und m0 m E bnd) {n : Int} {r : Vs × Int} (hr : Und m0 r.1 E bnd) : Und m0 (chg m n r).1 E bnd := by
  unfold chg
  by_cases h1 : ¬ inV n = true
  · rw [if_pos h1]; exact h
  · rw [if_neg h1]
    by_cases h2 : hasC (m.marks n.toNat) = true
    · rw [if_pos h2]; exact h
    · rw [if_neg h2]; exact hr
theorem Und.set01 {m0 m : Vs} {E : List (Nat × Nat × Cl)} {bnd : List (Nat × Nat)} (h : Und m0 m E bnd) {a : AW} (hq : pickZ a.kind 14 = 0 ∨ pickZ a.kind 14 = 1) {p : Nat × Nat} (hp : p ∈ bnd) (h1 : (p.1 : Int) = a.n) (h2 : p.2 = m.scope) : Und m0 (m.act a).1 E bnd := by
  have hm : (a.n.toNat, m.scope) ∈ bnd := by
    rw [← h1, ← h2]
    exact hp
  rcases hq with q | q
  · rw [act_0 q]; exact h.chgd (h.put _ hm _)
  · rw [act_1 q]; exact h.chgd (h.put _ hm _)
/-- The list's cells. -/
theorem UK.cells {w X : World} {vb : Nat} {G : Nat → Nat} {m : Vs} {vb2 : Nat} {F : Nat → Nat} {m2 : Vs} {bv : Value} {bnd : List (Nat × Nat)} (h : UK w X vb G m vb2 F m2 bv bnd) : ∃ a cap, bv = .slice a bnd.length cap ∧ ∀ (k : Nat) (p : Nat × Nat), bnd[k]? = some p → ∃ g, a = some ⟨g, 0, none⟩ ∧ g < X.heap.size ∧ X.cell? ⟨g, k * 5 + 1, none⟩ = some (.int .i64 (p.1 : Int)) ∧ X.cell? ⟨g, k * 5 + 2, none⟩ = some (.int .i64 (p.2 : Int)) := by
  have h0 := h.row
  rcases h.row.2 with ⟨h1, h2⟩ | ⟨g, cap, cur, h1, h2⟩
  · refine ⟨none, 0, by rw [h1, h2], fun k p hk => ?_⟩
    rw [List.eq_nil_of_length_eq_zero h2] at hk
    simp at hk
  · refine ⟨_, cap, h1, fun k p hk => ⟨g, rfl, lt_at h2.2.1, ?_, ?_⟩⟩
    · have := World.ownsRow.cells h0 (g := g) (by rw [h1]; rfl) (k * 5 + 1) _ (acells_at bnd k p hk 1 (by decide))
      simpa [Go.WideShapes.add_plain] using this
    · have := World.ownsRow.cells h0 (g := g) (by rw [h1]; rfl) (k * 5 + 2) _ (acells_at bnd k p hk 2 (by decide))
      simpa [Go.WideShapes.add_plain] using this
theorem step0 {A B D : Prop} {c b l i : Nat} (h : A ∧ B ∧ c ≤ 100 + 2 * i ∧ b ≤ 40 + i ∧ D ∧ l ≤ i) : A ∧ B ∧ c ≤ 100 + 2 * (i + 1) ∧ b ≤ 40 + (i + 1) ∧ D ∧ l ≤ i + 1 := ⟨h.1, h.2.1, by omega, by omega, h.2.2.2.2.1, by omega⟩
set_option maxHeartbeats 4000000 in
set_option maxRecDepth 100000 in
theorem undone_any {w : World} {va vl : Value} {xs ys : List AW} (ha : SlA w va xs) (hl : SlA w vl ys) :
    Calls Try.prog 4 #[va, vl] w fun e w' => e = .returned (.bool true) ∧ Below w.heap.size w w' := by
  obtain ⟨a1, c1, rfl, hca⟩ := ha
  obtain ⟨a2, c2, rfl, hcl⟩ := hl
  have HA := Lib.hid (And.intro hca hcl)
  clear hca hcl
  go_enter Try.func4, Try.ntmps4
  go_wp2_with fail
  refine (lives_any _).mono ?_
  rintro e w1 ⟨rfl, hb1⟩
  by_cases h1 : 40 < xs.length
  · have q1 : decide ((40 : Int) < (xs.length : Int)) = true := by rw [decide_eq_true_eq]; omega
    clear HA
    go_wp2_with fail
    go_ret
    exact ⟨rfl, hb1⟩
  · have q1 : decide ((40 : Int) < (xs.length : Int)) = false := by rw [decide_eq_false_iff_not]; omega
    by_cases h2 : 40 < ys.length
    · have q2 : decide ((40 : Int) < (ys.length : Int)) = true := by rw [decide_eq_true_eq]; omega
      clear HA
      go_wp2_with fail
      go_ret
      exact ⟨rfl, hb1⟩
    · have q2 : decide ((40 : Int) < (ys.length : Int)) = false := by rw [decide_eq_false_iff_not]; omega
      go_wp2_with fail
      refine (new_any _).mono ?_
      rintro e w2 ⟨vb, G0, rfl, HK0⟩
      clear q1 q2
      have HS := Lib.hid (Fine.start)
      have HK := Lib.hid (And.intro hb1 HK0)
      have hx : (xs.length : Int) ≤ 40 := by omega
      have hy : (ys.length : Int) ≤ 40 := by omega
      clear h1 h2 hb1 HK0
      go_wp2_with fail
      go_loopw [6] (fun iv wr => ∃ (i : Nat) (G : Nat → Nat) (m : Vs), iv = .int .i64 i ∧ i ≤ xs.length ∧ Hid (VK w1 wr vb G m [] ∧ Fine m ∧ m.cnt ≤ 10 + 2 * i ∧ m.binds.length ≤ i)) (fun iv _ => xs.length - (RowKit.intOf iv).toNat)
      case atStart => exact ⟨0, G0, vsN, rfl, Nat.zero_le _, Lib.hid ⟨HK.out.2, HS.out.1, HS.out.2.1, by rw [HS.out.2.2]; exact Nat.le_refl _⟩⟩
      case round =>
        obtain ⟨i, G, m, rfl, hi, HL⟩ := hrel
        by_cases hlt : (i : Int) < (xs.length : Int)
        · have hil : i < xs.length := by omega
          obtain ⟨x, hxi⟩ : ∃ x, xs[i]? = some x := ⟨_, List.getElem?_eq_getElem hil⟩
          obtain ⟨b, off, rfl, hb, k0, k1, k2, k3, k4⟩ := HA.out.1 i x hxi
          have hwr : Below w.heap.size w wr := HK.out.1.trans (HL.out.1.below.mono HK.out.1.size)
          have q0 := (hwr.cell (p := ⟨b, off + i * 5, none⟩) hb).trans k0
          have q1 := (hwr.cell (p := ⟨b, off + i * 5 + 1, none⟩) hb).trans k1
          have q2 := (hwr.cell (p := ⟨b, off + i * 5 + 2, none⟩) hb).trans k2
          have q3 := (hwr.cell (p := ⟨b, off + i * 5 + 3, none⟩) hb).trans k3
          have q4 := (hwr.cell (p := ⟨b, off + i * 5 + 4, none⟩) hb).trans k4
          have hcn : m.cnt ≤ 1000000 := by have := HL.out.2.2.1; omega
          have hbn : m.binds.length ≤ 2000 := by have := HL.out.2.2.2; omega
          have cD := do_any HL.out.1.vars hcn hbn x
          clear k0 k1 k2 k3 k4 hxi hwr hcn hbn hb
          go_wp2_with fail
          refine cD.mono ?_
          rintro e w3 ⟨rfl, hV⟩
          obtain ⟨G2, hK2⟩ := HL.out.1.went hV
          have hA := HL.out.2.1.act x
          have HF := Lib.hid (show VK w1 w3 vb G2 (m.act x).1 [] ∧ Fine (m.act x).1 ∧ (m.act x).1.cnt ≤ 10 + 2 * (i + 1) ∧ (m.act x).1.binds.length ≤ i + 1 from ⟨hK2, hA.fine, by have := hA.cnt; have := HL.out.2.2.1; omega, by have := hA.binds; have := HL.out.2.2.2; omega⟩)
          clear cD hV hK2 hA q0 q1 q2 q3 q4
          go_wp2
          go_roundw
          case rel => exact ⟨i + 1, G2, _, by go_num, by omega, HF⟩
          case measure => simp [RowKit.intOf]; omega
        · have hin : i = xs.length := by omega
          subst hin
          clear hi hlt HS
          have cC := vcopy_any HL.out.1.vars HL.out.2.1.cells (by have := HL.out.2.2.1; omega) (by have := HL.out.2.2.2; omega)
          go_wp2_with fail
          refine cC.mono ?_
          rintro e w3 ⟨vb2, F, rfl, hW, hF, hb3⟩
          have cD := depth_ok (HL.out.1.vars.below hb3)
          have HU := Lib.hid (UK.start HL.out.1 hW hF hb3)
          have hdl : m.binds.length ≤ 40 := Nat.le_trans HL.out.2.2.2 (by omega)
          have hdI : (m.binds.length : Int) ≤ 40 := by omega
          clear hW hF hb3 cC
          go_wp2_with fail
          refine cD.mono ?_
          rintro e w4 ⟨rfl, rfl⟩
          clear cD
          go_wp2_with fail
          have HM := Lib.hid (And.intro (show m.cnt ≤ 100 by have := HL.out.2.2.1; omega) (And.intro HL.out.2.1 hdl))
          have HU2 := Lib.hid (show UK w1 w4 vb G m vb2 F { m with cnt := 400000 } (.slice none 0 0) [] ∧ Fine m ∧ m.cnt ≤ 100 + 2 * 0 ∧ m.binds.length ≤ 40 + 0 ∧ Und m m [] [] ∧ 0 ≤ 0 from ⟨HU.out, HM.out.2.1, HM.out.1, hdl, Und.start m, Nat.le_refl _⟩)
          have hbW := HK.out.1
          clear HL HU HK hdl
          go_loopw [9, 10] (fun bv iv wr => ∃ (i : Nat) (G2 : Nat → Nat) (m2 : Vs) (E : List (Nat × Nat × Cl)) (bnd : List (Nat × Nat)), iv = .int .i64 i ∧ i ≤ ys.length ∧ Hid (UK w1 wr vb G2 m2 vb2 F { m with cnt := 400000 } bv bnd ∧ Fine m2 ∧ m2.cnt ≤ 100 + 2 * i ∧ m2.binds.length ≤ 40 + i ∧ Und m m2 E bnd ∧ bnd.length ≤ i)) (fun _ iv _ => ys.length - (RowKit.intOf iv).toNat)
          case atStart => exact ⟨0, G, m, [], [], rfl, Nat.zero_le _, HU2⟩
          case round =>
            obtain ⟨i, G2, m2, E, bnd, rfl, hi, HL⟩ := hrel
            by_cases hlt : (i : Int) < (ys.length : Int)
            · have hil : i < ys.length := by omega
              obtain ⟨x, hxi⟩ : ∃ x, ys[i]? = some x := ⟨_, List.getElem?_eq_getElem hil⟩
              obtain ⟨b, off, rfl, hb, k0, k1, k2, k3, k4⟩ := HA.out.2 i x hxi
              have hwr : Below w.heap.size w wr := hbW.trans (HL.out.1.below.mono hbW.size)
              have q0 := (hwr.cell (p := ⟨b, off + i * 5, none⟩) hb).trans k0
              have q1 := (hwr.cell (p := ⟨b, off + i * 5 + 1, none⟩) hb).trans k1
              have q2 := (hwr.cell (p := ⟨b, off + i * 5 + 2, none⟩) hb).trans k2
              have q3 := (hwr.cell (p := ⟨b, off + i * 5 + 3, none⟩) hb).trans k3
              have q4 := (hwr.cell (p := ⟨b, off + i * 5 + 4, none⟩) hb).trans k4
              have cP := pick_any x.kind 14 wr (by decide) (by decide)
              obtain ⟨p0, p1⟩ := pickZ_in x.kind 14 (by decide)
              have HX := Lib.hid (And.intro hxi (And.intro hwr hb))
              have HY := Lib.hid (And.intro k1 (And.intro k3 k4))
              have hq : pickZ x.kind 14 = 0 ∨ pickZ x.kind 14 = 1 ∨ pickZ x.kind 14 = 4 ∨ pickZ x.kind 14 = 5 ∨ pickZ x.kind 14 = 7 ∨ (pickZ x.kind 14 ≠ 0 ∧ pickZ x.kind 14 ≠ 1 ∧ pickZ x.kind 14 ≠ 4 ∧ pickZ x.kind 14 ≠ 5 ∧ pickZ x.kind 14 ≠ 7) := by omega
              generalize hpq : pickZ x.kind 14 = q at *
              have HPQ := Lib.hid hpq
              clear hpq
              clear k0 k1 k2 k3 k4 hxi hwr hb p0 p1 HU2
              rcases hq with rfl | rfl | rfl | rfl | rfl | ⟨n0, n1, n4, n5, n7⟩
              · obtain ⟨ag, cap9, rfl, hcl9⟩ := HL.out.1.cells
                have HC9 := Lib.hid hcl9
                have HU9 := Lib.hid HL.out.1
                have hbl : (bnd.length : Int) ≤ 40 := by have := HL.out.2.2.2.2.2; omega
                have HBL := Lib.hid hil
                clear hcl9 hil
                go_wp2_with fail
                refine cP.mono ?_
                rintro e w5 ⟨rfl, rfl⟩
                clear cP
                go_wp2_with fail
                go_loopw [11] (fun kv wr => ∃ (k : Nat), kv = .int .i64 k ∧ k ≤ bnd.length ∧ Hid (Below w5.heap.size w5 wr)) (fun kv _ => bnd.length - (RowKit.intOf kv).toNat)
                case atStart => exact ⟨0, rfl, Nat.zero_le _, Lib.hid (Below.refl _ _)⟩
                case round =>
                  obtain ⟨k, rfl, hk, HB9⟩ := hrel
                  by_cases hlt9 : (k : Int) < (bnd.length : Int)
                  · have hkl : k < bnd.length := by omega
                    obtain ⟨p, hpk⟩ : ∃ p, bnd[k]? = some p := ⟨_, List.getElem?_eq_getElem hkl⟩
                    obtain ⟨g9, rfl, hg9, z1, z2⟩ := HC9.out k p hpk
                    have y1 := (HB9.out.cell (p := ⟨g9, k * 5 + 1, none⟩) hg9).trans z1
                    have y2 := (HB9.out.cell (p := ⟨g9, k * 5 + 2, none⟩) hg9).trans z2
                    have hU := HU9.out.junk HB9.out
                    have hwr9 : Below w.heap.size w wr := hbW.trans (hU.below.mono hbW.size)
                    have x1 := (hwr9.cell (p := ⟨b, off + i * 5 + 1, none⟩) HX.out.2.2).trans HY.out.1
                    have CS := Lib.hid (fun q => scope_ok (hU.vars.below (below_drewN wr q)))
                    have HU := Lib.hid hU
                    have HW := Lib.hid hwr9
                    have HP := Lib.hid (List.mem_of_getElem? hpk)
                    clear z1 z2 hpk hU hwr9 q0 q1 q2 q3 q4
                    by_cases hm : (p.1 : Int) = x.n
                    · have hz1 : ((p.1 : Int) == x.n) = true := beq_iff_eq.2 hm
                      have HM1 := Lib.hid hm
                      clear hm
                      by_cases hs : p.2 = m2.scope
                      · have hz2 : ((p.2 : Int) == (m2.scope : Int)) = true := beq_iff_eq.2 (congrArg _ hs)
                        have HM2 := Lib.hid hs
                        clear hs
                        go_wp2_with fail
                        go_quiet ((go_at_call 28; exact Calls.quiet_of_same (CS.out _)))
                        have hUq := HU.out.junk (below_drewN wr nq)
                        have hwq : Below w.heap.size w (wr.drewN nq) := hbW.trans (hUq.below.mono hbW.size)
                        obtain ⟨b8, off8, hbo, hb8, k0, k1, k2, k3, k4⟩ := HA.out.2 i x HX.out.1
                        cases hbo
                        have q0 := (hwq.cell (p := ⟨b, off + i * 5, none⟩) hb8).trans k0
                        have q1 := (hwq.cell (p := ⟨b, off + i * 5 + 1, none⟩) hb8).trans k1
                        have q2 := (hwq.cell (p := ⟨b, off + i * 5 + 2, none⟩) hb8).trans k2
                        have q3 := (hwq.cell (p := ⟨b, off + i * 5 + 3, none⟩) hb8).trans k3
                        have q4 := (hwq.cell (p := ⟨b, off + i * 5 + 4, none⟩) hb8).trans k4
                        have hcn : m2.cnt ≤ 1000000 := by have := HL.out.2.2.1; omega
                        have hbn : m2.binds.length ≤ 2000 := by have := HL.out.2.2.2.1; omega
                        have cD := do_any hUq.vars hcn hbn x
                        have HQU := Lib.hid hUq
                        clear k0 k1 k2 k3 k4 hwq hcn hbn hb8 hUq y1 y2 x1 hz1 hz2
                        go_wp2_with fail
                        refine cD.mono ?_
                        rintro e w6 ⟨rfl, hV⟩
                        obtain ⟨G3, hK3⟩ := HQU.out.went hV
                        have hA := HL.out.2.1.act x
                        have hc1 : (m2.act x).1.cnt ≤ 100 + 2 * (i + 1) := Nat.le_trans hA.cnt (by have := HL.out.2.2.1; omega)
                        have hc2 : (m2.act x).1.binds.length ≤ 40 + (i + 1) := Nat.le_trans hA.binds (by have := HL.out.2.2.2.1; omega)
                        have hc3 : bnd.length ≤ i + 1 := Nat.le_succ_of_le HL.out.2.2.2.2.2
                        have HF := Lib.hid (And.intro hK3 (And.intro hA.fine (And.intro hc1 (And.intro hc2 (And.intro (HL.out.2.2.2.2.1.set01 (.inl HPQ.out) HP.out HM1.out HM2.out) hc3)))))
                        clear cD hV hK3 hA hc1 hc2 hc3 q0 q1 q2 q3 q4
                        go_wp2
                        go_roundw
                        case rel => exact ⟨i + 1, G3, _, E, bnd, by go_num, by have := HBL.out; omega, HF⟩
                        case measure => simp [RowKit.intOf]; have := HBL.out; omega
                      · have hz2 : ((p.2 : Int) == (m2.scope : Int)) = false := beq_eq_false_iff_ne.2 fun e => hs (Int.ofNat.inj e)
                        clear hs
                        go_wp2_with fail
                        go_quiet ((go_at_call 28; exact Calls.quiet_of_same (CS.out _)))
                        have HB2 := Lib.hid (HB9.out.trans ((below_drewN wr nq).mono HB9.out.size))
                        clear y1 y2 x1 hz1 hz2
                        go_wp2
                        go_roundw
                        case rel => exact ⟨k + 1, by go_num, by omega, HB2⟩
                        case measure => simp [RowKit.intOf]; omega
                    · have hz1 : ((p.1 : Int) == x.n) = false := beq_eq_false_iff_ne.2 hm
                      clear hm
                      go_wp2_with fail
                      go_quiet ((go_at_call 28; exact Calls.quiet_of_same (CS.out _)))
                      have HB2 := Lib.hid (HB9.out.trans ((below_drewN wr nq).mono HB9.out.size))
                      clear y1 y2 x1 hz1
                      go_wp2
                      go_roundw
                      case rel => exact ⟨k + 1, by go_num, by omega, HB2⟩
                      case measure => simp [RowKit.intOf]; omega
                  · have HF := Lib.hid (step0 (And.intro (HU9.out.junk HB9.out) HL.out.2))
                    go_wp2
                    go_roundw
                    case rel => exact ⟨i + 1, G2, m2, E, bnd, by go_num, by have := HBL.out; omega, HF⟩
                    case measure => simp [RowKit.intOf]; have := HBL.out; omega
              · obtain ⟨ag, cap9, rfl, hcl9⟩ := HL.out.1.cells
                have HC9 := Lib.hid hcl9
                have HU9 := Lib.hid HL.out.1
                have hbl : (bnd.length : Int) ≤ 40 := by have := HL.out.2.2.2.2.2; omega
                have HBL := Lib.hid hil
                clear hcl9 hil
                go_wp2_with fail
                refine cP.mono ?_
                rintro e w5 ⟨rfl, rfl⟩
                clear cP
                go_wp2_with fail
                go_loopw [11] (fun kv wr => ∃ (k : Nat), kv = .int .i64 k ∧ k ≤ bnd.length ∧ Hid (Below w5.heap.size w5 wr)) (fun kv _ => bnd.length - (RowKit.intOf kv).toNat)
                case atStart => exact ⟨0, rfl, Nat.zero_le _, Lib.hid (Below.refl _ _)⟩
                case round =>
                  obtain ⟨k, rfl, hk, HB9⟩ := hrel
                  by_cases hlt9 : (k : Int) < (bnd.length : Int)
                  · have hkl : k < bnd.length := by omega
                    obtain ⟨p, hpk⟩ : ∃ p, bnd[k]? = some p := ⟨_, List.getElem?_eq_getElem hkl⟩
                    obtain ⟨g9, rfl, hg9, z1, z2⟩ := HC9.out k p hpk
                    have y1 := (HB9.out.cell (p := ⟨g9, k * 5 + 1, none⟩) hg9).trans z1
                    have y2 := (HB9.out.cell (p := ⟨g9, k * 5 + 2, none⟩) hg9).trans z2
                    have hU := HU9.out.junk HB9.out
                    have hwr9 : Below w.heap.size w wr := hbW.trans (hU.below.mono hbW.size)
                    have x1 := (hwr9.cell (p := ⟨b, off + i * 5 + 1, none⟩) HX.out.2.2).trans HY.out.1
                    have CS := Lib.hid (fun q => scope_ok (hU.vars.below (below_drewN wr q)))
                    have HU := Lib.hid hU
                    have HW := Lib.hid hwr9
                    have HP := Lib.hid (List.mem_of_getElem? hpk)
                    clear z1 z2 hpk hU hwr9 q0 q1 q2 q3 q4
                    by_cases hm : (p.1 : Int) = x.n
                    · have hz1 : ((p.1 : Int) == x.n) = true := beq_iff_eq.2 hm
                      have HM1 := Lib.hid hm
                      clear hm
                      by_cases hs : p.2 = m2.scope
                      · have hz2 : ((p.2 : Int) == (m2.scope : Int)) = true := beq_iff_eq.2 (congrArg _ hs)
                        have HM2 := Lib.hid hs
                        clear hs
                        go_wp2_with fail
                        go_quiet ((go_at_call 28; exact Calls.quiet_of_same (CS.out _)))
                        have hUq := HU.out.junk (below_drewN wr nq)
                        have hwq : Below w.heap.size w (wr.drewN nq) := hbW.trans (hUq.below.mono hbW.size)
                        obtain ⟨b8, off8, hbo, hb8, k0, k1, k2, k3, k4⟩ := HA.out.2 i x HX.out.1
                        cases hbo
                        have q0 := (hwq.cell (p := ⟨b, off + i * 5, none⟩) hb8).trans k0
                        have q1 := (hwq.cell (p := ⟨b, off + i * 5 + 1, none⟩) hb8).trans k1
                        have q2 := (hwq.cell (p := ⟨b, off + i * 5 + 2, none⟩) hb8).trans k2
                        have q3 := (hwq.cell (p := ⟨b, off + i * 5 + 3, none⟩) hb8).trans k3
                        have q4 := (hwq.cell (p := ⟨b, off + i * 5 + 4, none⟩) hb8).trans k4
                        have hcn : m2.cnt ≤ 1000000 := by have := HL.out.2.2.1; omega
                        have hbn : m2.binds.length ≤ 2000 := by have := HL.out.2.2.2.1; omega
                        have cD := do_any hUq.vars hcn hbn x
                        have HQU := Lib.hid hUq
                        clear k0 k1 k2 k3 k4 hwq hcn hbn hb8 hUq y1 y2 x1 hz1 hz2
                        go_wp2_with fail
                        refine cD.mono ?_
                        rintro e w6 ⟨rfl, hV⟩
                        obtain ⟨G3, hK3⟩ := HQU.out.went hV
                        have hA := HL.out.2.1.act x
                        have hc1 : (m2.act x).1.cnt ≤ 100 + 2 * (i + 1) := Nat.le_trans hA.cnt (by have := HL.out.2.2.1; omega)
                        have hc2 : (m2.act x).1.binds.length ≤ 40 + (i + 1) := Nat.le_trans hA.binds (by have := HL.out.2.2.2.1; omega)
                        have hc3 : bnd.length ≤ i + 1 := Nat.le_succ_of_le HL.out.2.2.2.2.2
                        have HF := Lib.hid (And.intro hK3 (And.intro hA.fine (And.intro hc1 (And.intro hc2 (And.intro (HL.out.2.2.2.2.1.set01 (.inr HPQ.out) HP.out HM1.out HM2.out) hc3)))))
                        clear cD hV hK3 hA hc1 hc2 hc3 q0 q1 q2 q3 q4
                        go_wp2
                        go_roundw
                        case rel => exact ⟨i + 1, G3, _, E, bnd, by go_num, by have := HBL.out; omega, HF⟩
                        case measure => simp [RowKit.intOf]; have := HBL.out; omega
                      · have hz2 : ((p.2 : Int) == (m2.scope : Int)) = false := beq_eq_false_iff_ne.2 fun e => hs (Int.ofNat.inj e)
                        clear hs
                        go_wp2_with fail
                        go_quiet ((go_at_call 28; exact Calls.quiet_of_same (CS.out _)))
                        have HB2 := Lib.hid (HB9.out.trans ((below_drewN wr nq).mono HB9.out.size))
                        clear y1 y2 x1 hz1 hz2
                        go_wp2
                        go_roundw
                        case rel => exact ⟨k + 1, by go_num, by omega, HB2⟩
                        case measure => simp [RowKit.intOf]; omega
                    · have hz1 : ((p.1 : Int) == x.n) = false := beq_eq_false_iff_ne.2 hm
                      clear hm
                      go_wp2_with fail
                      go_quiet ((go_at_call 28; exact Calls.quiet_of_same (CS.out _)))
                      have HB2 := Lib.hid (HB9.out.trans ((below_drewN wr nq).mono HB9.out.size))
                      clear y1 y2 x1 hz1
                      go_wp2
                      go_roundw
                      case rel => exact ⟨k + 1, by go_num, by omega, HB2⟩
                      case measure => simp [RowKit.intOf]; omega
                  · have HF := Lib.hid (step0 (And.intro (HU9.out.junk HB9.out) HL.out.2))
                    go_wp2
                    go_roundw
                    case rel => exact ⟨i + 1, G2, m2, E, bnd, by go_num, by have := HBL.out; omega, HF⟩
                    case measure => simp [RowKit.intOf]; have := HBL.out; omega
              · have hcn : m2.cnt ≤ 1000000 := by have := HL.out.2.2.1; omega
                have hbn : m2.binds.length ≤ 2000 := by have := HL.out.2.2.2.1; omega
                have CB := Lib.hid (fun (X : World) (h : VarsAt X vb G2 m2) => bindI_any h hcn hbn x.n x.w)
                have HS := Lib.hid (fun (X : World) (hX : Below w.heap.size w X) => And.intro ((hX.cell (p := ⟨b, off + i * 5 + 1, none⟩) HX.out.2.2).trans HY.out.1) (And.intro ((hX.cell (p := ⟨b, off + i * 5 + 3, none⟩) HX.out.2.2).trans HY.out.2.1) ((hX.cell (p := ⟨b, off + i * 5 + 4, none⟩) HX.out.2.2).trans HY.out.2.2)))
                rcases bindI_cases m2 x.n x.w with ⟨k, hk, hk2, hB⟩ | ⟨er, her, hB⟩
                · rw [hB] at CB
                  have hz : ((0 : Int) == 0) = true := rfl
                  have HN := Lib.hid (And.intro hk hk2)
                  clear hk hk2
                  clear hcn hbn hB q1 q2 q3 q4
                  go_wp2_with fail
                  refine cP.mono ?_
                  rintro e w5 ⟨rfl, rfl⟩
                  clear cP q0
                  go_wp2_with fail
                  have HD := Lib.hid (HL.out.1.junk (Below.refl _ _).drew)
                  have HK := Lib.hid (hbW.trans (HD.out.below.mono hbW.size))
                  go_region_held3 (fun X => X.cell? ⟨b, off + i * 5 + 1, none⟩ = some (.int .i64 x.n) ∧ X.cell? ⟨b, off + i * 5 + 3, none⟩ = some (.int .i64 x.w.1) ∧ X.cell? ⟨b, off + i * 5 + 4, none⟩ = some (.int .i64 x.w.2))
                    (first | with_reducible exact HS.out _ HK.out)
                    (first | (go_at_call 17; (with_reducible refine (CB.out _ HD.out.vars).mono ?_); rintro e wq ⟨rfl, hV⟩; obtain ⟨G3, hU3⟩ := HD.out.went hV; have HU3 := Lib.hid hU3; have HK2 := Lib.hid (hbW.trans (hU3.below.mono hbW.size)); clear HK hV hU3; have HK := HK2; clear HK2))
                  have HU4 := Lib.hid (And.intro HU3.out HN.out)
                  clear HU3 HD CB
                  have q9 := HS.out _ HK.out
                  go_wp2_with fail
                  obtain ⟨i0, hi0, hz0, hz1, hz2⟩ := info_parts info_act
                  have hU5 := HU4.out.1.junk (Below.refl _ _).drew
                  have cSc := scope_ok hU5.vars
                  have hsc : ({ (m2.bound (m2.home k) k).put (m2.home k) k (x.w, true) with cnt := 0 } : Vs).scope = m2.scope := rfl
                  have q21 : wq.drew.cell? ⟨b, off + i * 5 + 1, none⟩ = some (.int .i64 (k : Int)) := by
                    rw [← HU4.out.2.1]
                    exact (HS.out _ (hbW.trans (hU5.below.mono hbW.size))).1
                  obtain ⟨r1, r2, r3⟩ := hU5.addA k m2.scope
                  have HR := Lib.hid (And.intro r1 (And.intro r2 (And.intro r3 HU4.out.2)))
                  have hl1 : bnd.length + 1 ≤ maxLen := by have := HL.out.2.2.2.2.2; simp only [maxLen]; omega
                  have hl2 : (bnd.length + 1) * 40 ≤ 140737488355328 := by have := HL.out.2.2.2.2.2; omega
                  have CS := Lib.hid cSc
                  clear hU5 cSc r1 r2 r3 hsc q9 HU4 HS HK
                  go_region_law (first
                    | (refine step_append_row rfl _ _ 38 rfl 41 i0 (.agg #[.int .i64 0, .int .i64 0, .int .i64 0, .int .i64 0, .int .i64 0]) 5 40 Try.underlying38 hi0 hz0 hz1 hz2 rfl (by decide) _ _ _ rfl _ 4 HR.out.1 ⟨_, 0, none⟩ 1 1 (anew k m2.scope) rfl rfl HR.out.2.1 (by simp [Value.oneCell']) hl1 hl2 ?_; intro v' w9 hrow hgr _; have HV := Lib.hid (HR.out.2.2.1 v' w9 hrow hgr); clear hrow hgr)
                    | (go_simp; go_at_call 28; (with_reducible refine CS.out.mono ?_); rintro e wz ⟨rfl, rfl⟩))
                  all_goals
                    have hA := HL.out.2.1.bind (m2.home k) k (HL.out.2.1.home k) (x.w, true)
                    have hU := HL.out.2.2.2.2.1.bind k (x.w, true)
                    have hc1 : ((m2.bound (m2.home k) k).put (m2.home k) k (x.w, true)).cnt ≤ 100 + 2 * (i + 1) := Nat.le_trans hA.cnt (by have := HL.out.2.2.1; omega)
                    have hc2 : ((m2.bound (m2.home k) k).put (m2.home k) k (x.w, true)).binds.length ≤ 40 + (i + 1) := Nat.le_trans hA.binds (by have := HL.out.2.2.2.1; omega)
                    have hc3 : (bnd ++ [(k, m2.scope)]).length ≤ i + 1 := by rw [List.length_append]; exact Nat.succ_le_succ HL.out.2.2.2.2.2
                    have HF := Lib.hid (And.intro HV.out (And.intro hA.fine (And.intro hc1 (And.intro hc2 (And.intro hU hc3)))))
                    clear hA hU hc1 hc2 hc3 HV HR CS q21
                    go_wp2
                    go_roundw
                    case rel => exact ⟨i + 1, G3, _, _, _, by go_num, by omega, HF⟩
                    case measure => simp [RowKit.intOf]; omega
                · rw [hB] at CB
                  have hne : (er == 0) = false := by simpa using her
                  clear hcn hbn hB her q1 q2 q3 q4
                  go_wp2_with fail
                  refine cP.mono ?_
                  rintro e w5 ⟨rfl, rfl⟩
                  clear cP q0
                  go_wp2_with fail
                  have HD := Lib.hid (HL.out.1.junk (Below.refl _ _).drew)
                  have HK := Lib.hid (hbW.trans (HD.out.below.mono hbW.size))
                  go_region_held3 (fun X => X.cell? ⟨b, off + i * 5 + 1, none⟩ = some (.int .i64 x.n) ∧ X.cell? ⟨b, off + i * 5 + 3, none⟩ = some (.int .i64 x.w.1) ∧ X.cell? ⟨b, off + i * 5 + 4, none⟩ = some (.int .i64 x.w.2))
                    (first | with_reducible exact HS.out _ HK.out)
                    (first | (go_at_call 17; (with_reducible refine (CB.out _ HD.out.vars).mono ?_); rintro e wq ⟨rfl, hV⟩; obtain ⟨G3, hU3⟩ := HD.out.went hV; have HU3 := Lib.hid hU3; have HK2 := Lib.hid (hbW.trans (hU3.below.mono hbW.size)); clear HK hV hU3; have HK := HK2; clear HK2))
                  have HF := Lib.hid (step0 (And.intro HU3.out HL.out.2))
                  clear HU3 HK HD CB HS
                  go_wp2
                  go_roundw
                  case rel => exact ⟨i + 1, G3, m2, E, bnd, by go_num, by omega, HF⟩
                  case measure => simp [RowKit.intOf]; omega
              · have hcn : m2.cnt ≤ 1000000 := by have := HL.out.2.2.1; omega
                have hbn : m2.binds.length ≤ 2000 := by have := HL.out.2.2.2.1; omega
                have CB := Lib.hid (fun (X : World) (h : VarsAt X vb G2 m2) => bindI_any h hcn hbn x.n x.w)
                have HS := Lib.hid (fun (X : World) (hX : Below w.heap.size w X) => And.intro ((hX.cell (p := ⟨b, off + i * 5 + 1, none⟩) HX.out.2.2).trans HY.out.1) (And.intro ((hX.cell (p := ⟨b, off + i * 5 + 3, none⟩) HX.out.2.2).trans HY.out.2.1) ((hX.cell (p := ⟨b, off + i * 5 + 4, none⟩) HX.out.2.2).trans HY.out.2.2)))
                rcases bindI_cases m2 x.n x.w with ⟨k, hk, hk2, hB⟩ | ⟨er, her, hB⟩
                · rw [hB] at CB
                  have hz : ((0 : Int) == 0) = true := rfl
                  have HN := Lib.hid (And.intro hk hk2)
                  clear hk hk2
                  clear hcn hbn hB q1 q2 q3 q4
                  go_wp2_with fail
                  refine cP.mono ?_
                  rintro e w5 ⟨rfl, rfl⟩
                  clear cP q0
                  go_wp2_with fail
                  have HD := Lib.hid (HL.out.1.junk (Below.refl _ _).drew)
                  have HK := Lib.hid (hbW.trans (HD.out.below.mono hbW.size))
                  go_region_held3 (fun X => X.cell? ⟨b, off + i * 5 + 1, none⟩ = some (.int .i64 x.n) ∧ X.cell? ⟨b, off + i * 5 + 3, none⟩ = some (.int .i64 x.w.1) ∧ X.cell? ⟨b, off + i * 5 + 4, none⟩ = some (.int .i64 x.w.2))
                    (first | with_reducible exact HS.out _ HK.out)
                    (first | (go_at_call 17; (with_reducible refine (CB.out _ HD.out.vars).mono ?_); rintro e wq ⟨rfl, hV⟩; obtain ⟨G3, hU3⟩ := HD.out.went hV; have HU3 := Lib.hid hU3; have HK2 := Lib.hid (hbW.trans (hU3.below.mono hbW.size)); clear HK hV hU3; have HK := HK2; clear HK2))
                  have HU4 := Lib.hid (And.intro HU3.out HN.out)
                  clear HU3 HD CB
                  have q9 := HS.out _ HK.out
                  go_wp2_with fail
                  obtain ⟨i0, hi0, hz0, hz1, hz2⟩ := info_parts info_act
                  have hU5 := HU4.out.1.junk (Below.refl _ _).drew
                  have cSc := scope_ok hU5.vars
                  have hsc : ({ (m2.bound (m2.home k) k).put (m2.home k) k (x.w, true) with cnt := 0 } : Vs).scope = m2.scope := rfl
                  have q21 : wq.drew.cell? ⟨b, off + i * 5 + 1, none⟩ = some (.int .i64 (k : Int)) := by
                    rw [← HU4.out.2.1]
                    exact (HS.out _ (hbW.trans (hU5.below.mono hbW.size))).1
                  obtain ⟨r1, r2, r3⟩ := hU5.addA k m2.scope
                  have HR := Lib.hid (And.intro r1 (And.intro r2 (And.intro r3 HU4.out.2)))
                  have hl1 : bnd.length + 1 ≤ maxLen := by have := HL.out.2.2.2.2.2; simp only [maxLen]; omega
                  have hl2 : (bnd.length + 1) * 40 ≤ 140737488355328 := by have := HL.out.2.2.2.2.2; omega
                  have CS := Lib.hid cSc
                  clear hU5 cSc r1 r2 r3 hsc q9 HU4 HS HK
                  go_region_law (first
                    | (refine step_append_row rfl _ _ 38 rfl 41 i0 (.agg #[.int .i64 0, .int .i64 0, .int .i64 0, .int .i64 0, .int .i64 0]) 5 40 Try.underlying38 hi0 hz0 hz1 hz2 rfl (by decide) _ _ _ rfl _ 4 HR.out.1 ⟨_, 0, none⟩ 1 1 (anew k m2.scope) rfl rfl HR.out.2.1 (by simp [Value.oneCell']) hl1 hl2 ?_; intro v' w9 hrow hgr _; have HV := Lib.hid (HR.out.2.2.1 v' w9 hrow hgr); clear hrow hgr)
                    | (go_simp; go_at_call 28; (with_reducible refine CS.out.mono ?_); rintro e wz ⟨rfl, rfl⟩))
                  all_goals
                    have hA := HL.out.2.1.bind (m2.home k) k (HL.out.2.1.home k) (x.w, true)
                    have hU := HL.out.2.2.2.2.1.bind k (x.w, true)
                    have hc1 : ((m2.bound (m2.home k) k).put (m2.home k) k (x.w, true)).cnt ≤ 100 + 2 * (i + 1) := Nat.le_trans hA.cnt (by have := HL.out.2.2.1; omega)
                    have hc2 : ((m2.bound (m2.home k) k).put (m2.home k) k (x.w, true)).binds.length ≤ 40 + (i + 1) := Nat.le_trans hA.binds (by have := HL.out.2.2.2.1; omega)
                    have hc3 : (bnd ++ [(k, m2.scope)]).length ≤ i + 1 := by rw [List.length_append]; exact Nat.succ_le_succ HL.out.2.2.2.2.2
                    have HF := Lib.hid (And.intro HV.out (And.intro hA.fine (And.intro hc1 (And.intro hc2 (And.intro hU hc3)))))
                    clear hA hU hc1 hc2 hc3 HV HR CS q21
                    go_wp2
                    go_roundw
                    case rel => exact ⟨i + 1, G3, _, _, _, by go_num, by omega, HF⟩
                    case measure => simp [RowKit.intOf]; omega
                · rw [hB] at CB
                  have hne : (er == 0) = false := by simpa using her
                  clear hcn hbn hB her q1 q2 q3 q4
                  go_wp2_with fail
                  refine cP.mono ?_
                  rintro e w5 ⟨rfl, rfl⟩
                  clear cP q0
                  go_wp2_with fail
                  have HD := Lib.hid (HL.out.1.junk (Below.refl _ _).drew)
                  have HK := Lib.hid (hbW.trans (HD.out.below.mono hbW.size))
                  go_region_held3 (fun X => X.cell? ⟨b, off + i * 5 + 1, none⟩ = some (.int .i64 x.n) ∧ X.cell? ⟨b, off + i * 5 + 3, none⟩ = some (.int .i64 x.w.1) ∧ X.cell? ⟨b, off + i * 5 + 4, none⟩ = some (.int .i64 x.w.2))
                    (first | with_reducible exact HS.out _ HK.out)
                    (first | (go_at_call 17; (with_reducible refine (CB.out _ HD.out.vars).mono ?_); rintro e wq ⟨rfl, hV⟩; obtain ⟨G3, hU3⟩ := HD.out.went hV; have HU3 := Lib.hid hU3; have HK2 := Lib.hid (hbW.trans (hU3.below.mono hbW.size)); clear HK hV hU3; have HK := HK2; clear HK2))
                  have HF := Lib.hid (step0 (And.intro HU3.out HL.out.2))
                  clear HU3 HK HD CB HS
                  go_wp2
                  go_roundw
                  case rel => exact ⟨i + 1, G3, m2, E, bnd, by go_num, by omega, HF⟩
                  case measure => simp [RowKit.intOf]; omega
              · have cS := scopeI_any HL.out.1.vars x.k
                go_wp2_with fail
                refine cP.mono ?_
                rintro e w5 ⟨rfl, rfl⟩
                clear cP
                go_wp2_with fail
                refine cS.mono ?_
                rintro e w6 ⟨rfl, hV⟩
                obtain ⟨G3, hK3⟩ := HL.out.1.went hV
                have hA := HL.out.2.1.scopeI x.k
                have HF := Lib.hid (show UK w1 w6 vb G3 (m2.scopeI x.k).1 vb2 F { m with cnt := 400000 } u9 bnd ∧ Fine (m2.scopeI x.k).1 ∧ (m2.scopeI x.k).1.cnt ≤ 100 + 2 * (i + 1) ∧ (m2.scopeI x.k).1.binds.length ≤ 40 + (i + 1) ∧ Und m (m2.scopeI x.k).1 E bnd ∧ bnd.length ≤ i + 1 from
                  ⟨hK3, hA.fine, by have := hA.cnt; have := HL.out.2.2.1; omega, by rw [scopeI_binds]; have := HL.out.2.2.2.1; omega, HL.out.2.2.2.2.1.scopeI x.k, by have := HL.out.2.2.2.2.2; omega⟩)
                clear hV hK3 hA cS
                go_wp2
                go_roundw
                case rel => exact ⟨i + 1, G3, _, E, bnd, by go_num, by omega, HF⟩
                case measure => simp [RowKit.intOf]; omega
              · have e0 : (q == 0) = false := by simpa using n0
                have e1 : (q == 1) = false := by simpa using n1
                have e4 : (q == 4) = false := by simpa using n4
                have e5 : (q == 5) = false := by simpa using n5
                have e7 : (q == 7) = false := by simpa using n7
                have HF := HL
                go_wp2_with fail
                refine cP.mono ?_
                rintro e w5 ⟨rfl, rfl⟩
                clear cP
                have HF2 := Lib.hid (step0 HF.out)
                go_wp2
                go_roundw
                case rel => exact ⟨i + 1, G2, m2, E, bnd, by go_num, by omega, HF2⟩
                case measure => simp [RowKit.intOf]; omega
            · have hin : i = ys.length := by omega
              subst hin
              clear hi hlt
              have hE := HL.out.2.2.2.2.1
              have hdd : m.binds.length ≤ m2.binds.length := by rw [hE.binds, List.length_append]; omega
              have cU := unbindI_any HL.out.1.vars (by have := HL.out.2.2.2.1; omega) (m.binds.length : Int)
              rw [unbindI_at hdd] at cU
              clear hdd hE
              go_wp2_with fail
              refine cU.mono ?_
              rintro e w5 ⟨rfl, hV⟩
              obtain ⟨G3, hK3⟩ := HL.out.1.went hV
              have HE := Lib.hid (And.intro hK3 (And.intro (HL.out.2.1.unbind m.binds.length) HL.out.2.2.2.2.1.back))
              clear hV hK3 cU
              have cW := wscope_ok HE.out.1.copy
              have hms : m.scope ≤ 65536 := HM.out.2.1.scope
              have cS := scopeI_any HE.out.1.vars (m.scope : Int)
              rw [scopeI_at hms] at cS
              have HQ := Lib.hid hms
              clear hms
              go_wp2_with fail
              refine cW.mono ?_
              rintro e w6 ⟨rfl, rfl⟩
              clear cW
              go_wp2_with fail
              refine cS.mono ?_
              rintro e w7 ⟨rfl, hV⟩
              obtain ⟨G4, hK4⟩ := HE.out.1.went hV
              have hF4 := HE.out.2.1.fine.to m.scope HQ.out
              have hb4 := HE.out.2.2
              have h40 := HM.out.2.2
              have hc4 : (m2.unbind m.binds.length).cnt ≤ 400000 := by have := HE.out.2.1.cnt; have := HL.out.2.2.1; omega
              have HG := Lib.hid (And.intro hK4 (And.intro hF4.fine (And.intro hb4 (And.intro hc4 (And.intro HM.out.2.1 h40)))))
              have cD := depth_ok hK4.vars
              have e4 : ({ (m2.unbind m.binds.length) with scope := m.scope } : Vs).binds.length = m.binds.length := congrArg List.length hb4.1
              rw [e4] at cD
              have qd : ((m.binds.length : Int) != (m.binds.length : Int)) = false := by simp
              clear hV hK4 hF4 hb4 h40 hc4 cS e4
              go_wp2_with fail
              refine cD.mono ?_
              rintro e w8 ⟨rfl, rfl⟩
              clear cD
              have cV := values_any HG.out.1.vars.weak HG.out.2.1.cells HG.out.2.2.2.1 (by
                show (m2.unbind m.binds.length).binds.length ≤ 2000
                rw [HG.out.2.2.1.1]
                have := HG.out.2.2.2.2.2
                omega)
              go_wp2_with fail
              refine cV.mono ?_
              rintro e w9 ⟨v1, l1, rfl, ho1, _, ht1, hb9, hl1⟩
              clear cV
              have cV2 := values_any (HG.out.1.junk hb9).copy HG.out.2.2.2.2.1.cells (Nat.le_refl 400000) (by
                show m.binds.length ≤ 2000
                have := HG.out.2.2.2.2.2
                omega)
              have H1 := Lib.hid (And.intro ho1 (And.intro ht1 (And.intro hb9 hl1)))
              clear ho1 ht1 hb9 hl1
              go_wp2_with fail
              refine cV2.mono ?_
              rintro e w10 ⟨v2, l2, rfl, ho2, _, ht2, hb10, _⟩
              clear cV2
              have hll : l1 = l2 := H1.out.2.1.same ht2 (at_same HG.out.2.2.1.2.1)
              have hbb : ({ (m2.unbind m.binds.length) with scope := m.scope } : Vs).binds = m.binds := HG.out.2.2.1.1
              have cE := same_word (H1.out.1.below hb10).slw ho2.slw (Nat.le_trans H1.out.2.2.2 (by decide))
              rw [hll, hbb, decide_eq_true (show addB m.binds l2 = addB ({ m with cnt := 400000 } : Vs).binds l2 from rfl)] at cE
              have H2 := Lib.hid (And.intro ((HG.out.1.junk H1.out.2.2.1).junk hb10) hb10)
              clear ho2 ht2 hb10 hll hbb
              go_wp2_with fail
              refine cE.mono ?_
              rintro e w11 ⟨rfl, hb11⟩
              clear cE
              have HJ := Lib.hid (H2.out.1.junk hb11)
              clear hb11
              have hgt : ∀ n, gt ({ (m2.unbind m.binds.length) with scope := m.scope } : Vs) n = gt m n := gt_same HG.out.2.2.1.2.1 HG.out.2.2.1.2.2 rfl
              have HT := Lib.hid hgt
              clear hgt HL HE HG H1 H2 HM HQ hdI
              go_wp2_with fail
              go_loopw [12] (fun iv wr => ∃ (i : Nat), iv = .int .i64 i ∧ i ≤ ys.length ∧ Hid (UK w1 wr vb G4 { (m2.unbind m.binds.length) with scope := m.scope } vb2 F { m with cnt := 400000 } u9 bnd)) (fun iv _ => ys.length - (RowKit.intOf iv).toNat)
              case atStart => exact ⟨0, rfl, Nat.zero_le _, HJ⟩
              case round =>
                obtain ⟨i, rfl, hi, HL⟩ := hrel
                by_cases hlt : (i : Int) < (ys.length : Int)
                · have hil : i < ys.length := by omega
                  obtain ⟨x, hxi⟩ : ∃ x, ys[i]? = some x := ⟨_, List.getElem?_eq_getElem hil⟩
                  obtain ⟨b, off, rfl, hb, k0, k1, k2, k3, k4⟩ := HA.out.2 i x hxi
                  have hwr : Below w.heap.size w wr := hbW.trans (HL.out.below.mono hbW.size)
                  have q1 := (hwr.cell (p := ⟨b, off + i * 5 + 1, none⟩) hb).trans k1
                  have q1' := fun (X : World) (hX : Below wr.heap.size wr X) => ((hwr.trans (hX.mono hwr.size)).cell (p := ⟨b, off + i * 5 + 1, none⟩) hb).trans k1
                  have cG := wgetI_any HL.out.vars.weak x.n
                  rw [HT.out] at cG
                  have cG2 := fun (X : World) (hX : Below wr.heap.size wr X) => wgetI_any (HL.out.copy.below hX) x.n
                  have hgg : gt ({ m with cnt := 400000 } : Vs) x.n = gt m x.n := rfl
                  rw [hgg] at cG2
                  generalize gt m x.n = r at *
                  obtain ⟨⟨r0, r1⟩, s⟩ := r
                  have CG2 := Lib.hid cG2
                  have HQ1 := Lib.hid q1'
                  have z0 : (r0 != r0) = false := by simp
                  have z1 : (r1 != r1) = false := by simp
                  have z2 : (s != s) = false := by simp
                  clear k0 k1 k2 k3 k4 hxi hwr hb cG2 q1' hgg
                  go_wp2_with fail
                  refine cG.mono ?_
                  rintro e w12 ⟨rfl, hb12⟩
                  clear cG
                  have hbx : Below wr.heap.size wr (w12.alloc (.cells #[.int .i64 r0, .int .i64 r1] 28)) := hb12.alloc hb12.size _
                  have ax := alloc_at w12 (.cells #[.int .i64 r0, .int .i64 r1] 28)
                  have q1b := HQ1.out _ hbx
                  have cG2 := CG2.out _ hbx
                  have HX := Lib.hid (And.intro hbx ax)
                  clear hbx ax hb12
                  go_wp2_with fail
                  refine cG2.mono ?_
                  rintro e w13 ⟨rfl, hb13⟩
                  clear cG2 q1b q1
                  have hb14 : Below (w12.alloc (.cells #[.int .i64 r0, .int .i64 r1] 28)).heap.size (w12.alloc (.cells #[.int .i64 r0, .int .i64 r1] 28)) (w13.alloc (.cells #[.int .i64 r0, .int .i64 r1] 28)) := hb13.alloc hb13.size _
                  have ay := alloc_at w13 (.cells #[.int .i64 r0, .int .i64 r1] 28)
                  have ax2 := (hb14.block _ (lt_at HX.out.2)).trans HX.out.2
                  have y0 : (w13.alloc (.cells #[.int .i64 r0, .int .i64 r1] 28)).cell? ⟨w13.heap.size, 0, none⟩ = some (.int .i64 r0) := cell_at ay
                  have y1 : (w13.alloc (.cells #[.int .i64 r0, .int .i64 r1] 28)).cell? ⟨w13.heap.size, 1, none⟩ = some (.int .i64 r1) := cell_at ay
                  have x0 : (w13.alloc (.cells #[.int .i64 r0, .int .i64 r1] 28)).cell? ⟨w12.heap.size, 0, none⟩ = some (.int .i64 r0) := cell_at ax2
                  have x1 : (w13.alloc (.cells #[.int .i64 r0, .int .i64 r1] 28)).cell? ⟨w12.heap.size, 1, none⟩ = some (.int .i64 r1) := cell_at ax2
                  have HF := Lib.hid ((HL.out.junk HX.out.1).junk hb14)
                  clear hb13 hb14 ay ax2
                  go_wp2
                  go_roundw
                  case rel => exact ⟨i + 1, by go_num, by omega, HF⟩
                  case measure => simp [RowKit.intOf]; omega
                · have hin : i = ys.length := by omega
                  subst hin
                  clear hi hlt
                  have hfin : Below w.heap.size w wr := hbW.trans (HL.out.below.mono hbW.size)
                  go_wp2
                  go_ret
                  exact ⟨rfl, hfin⟩
end Go.Proofs.Ytgkblfegjmeolaa
