/- The contract of Collect. -/
import Derived.Test.YtleppjdmcjocmaaDoorHpSweep
import Derived.Deep.DeepCutAuto
import Derived.Deep.RegionWith
namespace Go.Proofs.YtleppjdmcjocmaaDoor
open Go.RowKit Go.Lib
/-- An object that is not marked. -/
def Hp.gone (m : Hp) (b : List Bool) (k : Nat) : Bool :=
  match m.obs[k]? with
  | some (some _) => b[k]? != some true
  | _ => false
/-- What stands when the numbers below k are swept, and how many are gone. -/
def Hp.sweep (m : Hp) (b : List Bool) : Nat → Hp
  | 0 => m
  | k + 1 => if m.gone b k then (m.sweep b k).drop k else m.sweep b k
def Hp.many (m : Hp) (b : List Bool) : Nat → Nat
  | 0 => 0
  | k + 1 => if m.gone b k then m.many b k + 1 else m.many b k
theorem Hp.sweep_length (m : Hp) (b : List Bool) (k : Nat) : (m.sweep b k).obs.length = m.obs.length := by
  induction k with
  | zero => rfl
  | succ k ih => simp only [Hp.sweep]; split <;> simp [Hp.drop, ih]
theorem Hp.sweep_after (m : Hp) (b : List Bool) (k j : Nat) (h : k ≤ j) : (m.sweep b k).obs[j]? = m.obs[j]? := by
  induction k with
  | zero => rfl
  | succ k ih =>
    simp only [Hp.sweep]
    split
    · simp only [Hp.drop]
      rw [List.getElem?_set_ne (by omega)]
      exact ih (by omega)
    · exact ih (by omega)
theorem Hp.many_le (m : Hp) (b : List Bool) (k : Nat) : m.many b k ≤ k := by
  induction k with
  | zero => exact Nat.le_refl _
  | succ k ih => simp only [Hp.many]; split <;> omega
/-- What holds between two rounds of the sweep. -/
structure Swept (w wr : World) (hb : Nat) (G G' : Nat → Nat) (m : Hp) (vo rv : Value) (b : List Bool) (k : Nat) : Prop where
  heap : HeapAtV wr hb G' (m.sweep b k) vo
  keeps : Keeps G w wr
  same : ∀ j, j < w.heap.size → (G' j = 0 ↔ G j = 0)
  row : wr.ownsRow w.heap.size 4 1 rv m.obs.length (bools b)
  sep : ∀ c, rv.ownBlock = some c → G' c = 0
theorem own_row {w : World} {B e size : Nat} {v : Value} {n : Nat} {xs : List Value} (h : w.ownsRow B e size v n xs) : Row w (fun _ => 0) 0 e size v n xs := ⟨own_base h (Nat.zero_le _), fun _ _ => rfl⟩
/-- The next number is left as it is. -/
theorem Swept.pass {w wr : World} {hb : Nat} {G G' : Nat → Nat} {m : Hp} {vo rv : Value} {b : List Bool} {k : Nat} (h : Swept w wr hb G G' m vo rv b k) (hk : m.gone b k = false) : Swept w wr hb G G' m vo rv b (k + 1) := by
  have e : m.sweep b (k + 1) = m.sweep b k := by simp [Hp.sweep, hk]
  exact ⟨by rw [e]; exact h.heap, h.keeps, h.same, h.row, h.sep⟩
theorem Swept.junk {w wr wr' : World} {hb : Nat} {G G' : Nat → Nat} {m : Hp} {vo rv : Value} {b : List Bool} {k : Nat} (h : Swept w wr hb G G' m vo rv b k) (hw : Below wr.heap.size wr wr') : Swept w wr' hb G G' m vo rv b k :=
  ⟨h.heap.below hw, h.keeps.trans (G' := fun _ => 0) (Keeps.of_below hw) (fun _ _ _ => rfl), h.same, own_keep h.row hw, h.sep⟩
/-- The next number's object is taken away. -/
theorem Swept.take {w wr w2 w3 : World} {hb g cap k d : Nat} {G G' : Nat → Nat} {m : Hp} {rv vf : Value} {b : List Bool} {o : Ob} (h : Swept w wr hb G G' m (.slice (some ⟨g, 0, none⟩) m.obs.length cap) rv b k) (hg : m.gone b k = true) (ho : m.obs[k]? = some (some o))
    (hvf : wr.heap[hb]? = some (.cells #[.int .i64 (m.sweep b k).lim, .slice (some ⟨g, 0, none⟩) m.obs.length cap, vf, .int .i64 (total (m.sweep b k).obs)] 67 (0, 0)))
    (hw2 : w2 = ((wr.setCell ⟨g, k, none⟩ .nilIface).drewN d).setCell ⟨hb, 3, none⟩ (.int .i64 ((total (m.sweep b k).obs : Int) - o.size)))
    (hp : Pushed w2 w3 hb G' (.int .i64 (m.sweep b k).lim) (.slice (some ⟨g, 0, none⟩) m.obs.length cap) (.int .i64 ((total (m.sweep b k).obs : Int) - o.size)) (pushL (m.sweep b k).free k)) :
    ∃ G2, Swept w w3 hb G G2 m (.slice (some ⟨g, 0, none⟩) m.obs.length cap) rv b (k + 1) := by
  obtain ⟨h1, h2, h3, h4, h5⟩ := h
  have hl := m.sweep_length b k
  rw [← hl] at h1 hvf hp
  obtain ⟨g1, G2, g2, g3⟩ := h1.drop (by rw [m.sweep_after b k k (Nat.le_refl _)]; exact ho) vf hvf d hw2 hp
  have e : m.sweep b (k + 1) = (m.sweep b k).drop k := by simp [Hp.sweep, hg]
  rw [hl] at g2
  have hws := h2.size
  refine ⟨G2, by rw [e]; exact g2, h2.trans g1 (fun i hi hz => (h3 i hi).2 hz), fun j hj => (g3 j (by omega)).trans (h3 j hj), own_same h4 (fun c hc => g1.block c (h4.lt c hc).2 (h5 c hc)), fun c hc => (g3 c (h4.lt c hc).2).2 (h5 c hc)⟩
set_option maxHeartbeats 8000000 in
set_option maxRecDepth 20000 in
theorem collect_any {w : World} {hb : Nat} {G : Nat → Nat} {m : Hp} (h0 : HeapAt w hb G m) (v : Value) (R : List Wd) (hR : R.length ≤ 1048576) (hA : ArgW w v R) :
    Calls Tryd.prog 15 #[hptr hb, v] w fun e w' => ∃ b : List Bool, b.length = m.obs.length ∧ (∀ j : Nat, b[j]? = some true ↔ m.Reach R j) ∧ e = .returned (.int .i64 (m.many b m.obs.length)) ∧ Went w w' hb G (m.sweep b m.obs.length) := by
  have cR := reached_any h0 v R hR hA
  obtain ⟨vo, hvo⟩ := h0.toV
  have hlab0 : ∀ c, w.heap.size ≤ c → G c = 0 := h0.new
  have hln : m.obs.length ≤ 65536 := Nat.le_trans h0.ok.len h0.ok.lim2
  obtain ⟨vf0, xs0, hh0, hr0, _⟩ := hvo.lies
  have cV := valid_any hb m.lim w (by have := h0.ok.lim1; omega) (cell_at hh0)
  obtain ⟨ao, co, rfl⟩ := hr0.slice
  have H0 := Lib.hid (And.intro hvo (And.intro hlab0 (And.intro hln hh0)))
  have CR := Lib.hid cR
  clear hvo hlab0 h0 hR hA cR hln hh0 hr0
  go_enter Tryd.func15, Tryd.ntmps15
  go_wp2_with (go_at_call 36; ((with_reducible refine cV.mono ?_); rintro e w' ⟨rfl, hw'⟩; obtain rfl : _ = w' := hw'.symm; clear hw'))
  refine CR.out.mono ?_
  rintro e w1 ⟨rv, b, rfl, hb1, hrow1, hbl, hbr⟩
  have c1 : w1.cell? ⟨hb, 1, none⟩ = some (.slice ao m.obs.length co) := cell_at ((hb1.block hb (lt_at H0.out.2.2.2)).trans H0.out.2.2.2)
  have hst : Swept w w1 hb G G m (.slice ao m.obs.length co) rv b 0 := ⟨H0.out.1.below hb1, Keeps.of_below hb1, fun _ _ => Iff.rfl, hrow1, fun c hc => H0.out.2.1 c (hrow1.lt c hc).1⟩
  have HB := Lib.hid (And.intro hbl (And.intro hbr hst))
  clear hb1 hrow1 hbl hbr hst CR cV
  go_wp2_with fail
  go_loopg [6, 20] m.obs.length (fun gk s6 s20 wr => ∃ (k : Nat) (G' : Nat → Nat), gk = m.obs.length - k ∧ k ≤ m.obs.length ∧ s6 = .int .i64 (m.many b k) ∧ s20 = .int .i64 k ∧ Swept w wr hb G G' m (.slice ao m.obs.length co) rv b k)
  case atStart => exact ⟨0, G, by omega, Nat.zero_le _, rfl, rfl, HB.out.2.2⟩
  case round =>
    obtain ⟨k, G', hgk, hk, rfl, rfl, hsw⟩ := hrel
    have HS := Lib.hid (And.intro hsw hgk)
    have hN := H0.out.2.2.1
    clear hsw hgk c1
    by_cases hlt : k < m.obs.length
    · have hmk := m.many_le b k
      obtain ⟨vf, xs, hh, hr2, hr3, hob⟩ := HS.out.1.heap.lies
      rw [m.sweep_length] at hr2
      obtain ⟨g, cap, cur, e, lg, kg, _⟩ := hr2.at (by omega)
      cases e
      obtain ⟨uo, huo⟩ : ∃ uo, m.obs[k]? = some uo := ⟨_, List.getElem?_eq_getElem hlt⟩
      obtain ⟨xv, hx1, hx2⟩ := hob k uo (by rw [m.sweep_after b k k (Nat.le_refl _)]; exact huo)
      have d0 : wr.cell? ⟨g, k, none⟩ = some xv := hr2.cell hx1
      obtain ⟨rb, rcap, rcur, e, _, kr, _⟩ := (own_row HS.out.1.row).at (by omega)
      cases e
      obtain ⟨bv, hbv⟩ : ∃ bv, b[k]? = some bv := ⟨_, List.getElem?_eq_getElem (by have := HB.out.1; omega)⟩
      have d1 : wr.cell? ⟨rb, k, none⟩ = some (.bool bv) := (own_row HS.out.1.row).cell (by simp [bools, hbv])
      cases uo with
      | none =>
        obtain rfl : xv = .nilIface := hx2
        have hgone : m.gone b k = false := by simp [Hp.gone, huo]
        have HP := Lib.hid (HS.out.1.pass hgone)
        have HM := Lib.hid (show m.many b (k + 1) = m.many b k by simp [Hp.many, hgone])
        clear hh hr2 hr3 hob kg kr huo hx1 hbv hgone
        go_wp2_with fail
        go_roundg (m.obs.length - (k + 1))
        case measure => have := HS.out.2; omega
        case rel => exact ⟨k + 1, G', rfl, hlt, by rw [HM.out], by go_num, HP.out⟩
      | some o =>
        have hx3 : ObAt wr G' (4 + k) xv o := hx2
        obtain ⟨T, p, rfl, _⟩ := hx3.iface
        cases bv with
        | true =>
          have hgone : m.gone b k = false := by simp [Hp.gone, huo, hbv]
          have HP := Lib.hid (HS.out.1.pass hgone)
          have HM := Lib.hid (show m.many b (k + 1) = m.many b k by simp [Hp.many, hgone])
          clear hh hr2 hr3 hob kg kr huo hx1 hx2 hx3 hbv hgone
          go_wp2_with fail
          go_roundg (m.obs.length - (k + 1))
          case measure => have := HS.out.2; omega
          case rel => exact ⟨k + 1, G', rfl, hlt, by rw [HM.out], by go_num, HP.out⟩
        | false =>
          have hgone : m.gone b k = true := by simp [Hp.gone, huo, hbv]
          have HM := Lib.hid (show m.many b (k + 1) = m.many b k + 1 by simp [Hp.many, hgone])
          have d2 : wr.cell? ⟨hb, 1, none⟩ = some (.slice (some ⟨g, 0, none⟩) m.obs.length co) := cell_at hh
          have f0 : wr.frozen? ⟨g, k, none⟩ = false := frozen_at kg
          have hgb : g ≠ hb := fun e => by have := HS.out.1.heap.lab; rw [e] at lg; omega
          have HH := Lib.hid (And.intro hh (And.intro hr2 (And.intro hr3 (And.intro kg (And.intro huo (And.intro hx3 (And.intro hgone (And.intro lg hgb))))))))
          clear hh hr2 hr3 hob kg kr huo hx1 hx2 hx3 hbv hgone lg hgb
          go_wp2_with fail
          obtain ⟨st, hst⟩ : ∃ st : Nat, st = total (m.sweep b k).obs := ⟨_, rfl⟩
          have hst1 : st ≤ 1048576 := by rw [hst]; exact HS.out.1.heap.ok.store
          have hst2 : o.size ≤ st := by rw [hst]; exact size_total _ k o (by rw [m.sweep_after b k k (Nat.le_refl _)]; exact HH.out.2.2.2.2.1)
          obtain ⟨W1, hW1⟩ : ∃ W1, W1 = wr.setCell ⟨g, k, none⟩ .nilIface := ⟨_, rfl⟩
          have hh1 : W1.heap[hb]? = some (.cells #[.int .i64 (m.sweep b k).lim, .slice (some ⟨g, 0, none⟩) m.obs.length co, vf, .int .i64 st] 67 (0, 0)) := by
            rw [hW1, setCell_off _ (Ne.symm HH.out.2.2.2.2.2.2.2.2), hst]
            exact HH.out.1
          have hx1 : ObAt W1 G' (4 + k) (.iface T (.pointer (some ⟨p, 0, none⟩))) o := HH.out.2.2.2.2.2.1.keep (by omega) (fun j _ e => by rw [hW1, setCell_off _ (fun e2 => by have h2 := HH.out.2.2.2.2.2.2.2.1; have e3 : j = g := e2; rw [e3] at e; omega)]) (fun _ _ e => e)
          have e3 : W1.cell? ⟨hb, 3, none⟩ = some (.int .i64 st) := cell_at hh1
          have f3 : W1.frozen? ⟨hb, 3, none⟩ = false := frozen_at hh1
          have hwr : IntKind.i64.wrap ((st : Int) - o.size) = (st : Int) - o.size := by rw [IntKind.wrap_i64]; omega
          rw [← hW1]
          have HW := Lib.hid (And.intro hW1 (And.intro hh1 (And.intro hx1 hst)))
          clear hW1 hh1 hx1 hst d0 d1 d2 f0
          go_cut [] (fun wc => ∃ d, wc = (W1.drewN d).setCell ⟨hb, 3, none⟩ (.int .i64 ((st : Int) - o.size)))
          case first =>
            obtain ⟨pb, _, _, h5 | h5 | h5 | h5⟩ := HW.out.2.2.1.size_le (by omega) <;> obtain ⟨e5, h6⟩ := h5 <;> cases e5 <;> have CS := Lib.hid h6 <;> clear h6
            · have hmt := mt_size_pair p
              go_region_with (go_at_call 85; refine (CS.out _ ?_).mono ?_; exact (Old.refl _).drewN _; rintro e w' ⟨rfl, d, rfl⟩)
              all_goals (go_wp2_with fail; go_meet)
              all_goals exact ⟨_, rfl⟩
            · have hmt := mt_size_text p
              go_region_with (go_at_call 87; refine (CS.out _ ?_).mono ?_; exact (Old.refl _).drewN _; rintro e w' ⟨rfl, d, rfl⟩)
              all_goals (go_wp2_with fail; go_meet)
              all_goals exact ⟨_, rfl⟩
            · have hmt := mt_size_vector p
              go_region_with (go_at_call 89; refine (CS.out _ ?_).mono ?_; exact (Old.refl _).drewN _; rintro e w' ⟨rfl, d, rfl⟩)
              all_goals (go_wp2_with fail; go_meet)
              all_goals exact ⟨_, rfl⟩
            · have hmt := mt_size_code p
              go_region_with (go_at_call 91; refine (CS.out _ ?_).mono ?_; exact (Old.refl _).drewN _; rintro e w' ⟨rfl, d, rfl⟩)
              all_goals (go_wp2_with fail; go_meet)
              all_goals exact ⟨_, rfl⟩
          case rest =>
            obtain ⟨d, hwc⟩ := hcut
            have hh2 : wc.heap[hb]? = some (.cells #[.int .i64 (m.sweep b k).lim, .slice (some ⟨g, 0, none⟩) m.obs.length co, vf, .int .i64 ((st : Int) - o.size)] 67 (0, 0)) := by
              have h := setCell_at (w := W1.drewN d) (i := 3) HW.out.2.1 (.int .i64 ((st : Int) - o.size))
              rw [hwc]
              simpa using h
            have hr32 : Row wc G' 3 3 1 vf (m.sweep b k).free.length (ints (m.sweep b k).free) := HH.out.2.2.1.keep (fun j _ e => by
              rw [hwc, HW.out.1, setCell_off _ (fun e2 => by have h2 := HS.out.1.heap.lab; have e3 : j = hb := e2; rw [e3] at e; omega)]
              exact setCell_off _ (fun e2 => by have h2 := HH.out.2.2.2.2.2.2.2.1; have e3 : j = g := e2; rw [e3] at e; omega)) (fun _ _ e => e)
            have hfl : (m.sweep b k).free.length ≤ 65536 := by have := HS.out.1.heap.ok.free_len; rw [m.sweep_length] at this; omega
            have cL := release_any hb k (m.sweep b k).free (.int .i64 (m.sweep b k).lim) (.slice (some ⟨g, 0, none⟩) m.obs.length co) vf (.int .i64 ((st : Int) - o.size)) G' wc hh2 HS.out.1.heap.lab hfl hr32
            have CL := Lib.hid cL
            have HC := Lib.hid hwc
            clear hh2 hr32 hfl cL hwc e3 f3
            go_wp2_with (go_at_call 43; refine CL.out.mono ?_; rintro e w3 ⟨rfl, hp3⟩; have HP3 := Lib.hid hp3; clear hp3)
            have hwc2 : wc = ((wr.setCell ⟨g, k, none⟩ .nilIface).drewN d).setCell ⟨hb, 3, none⟩ (.int .i64 ((total (m.sweep b k).obs : Int) - o.size)) := by
              rw [← HW.out.2.2.2, ← HW.out.1]; exact HC.out
            have hp4 := HP3.out
            rw [HW.out.2.2.2] at hp4
            have hh4 := HH.out.1
            obtain ⟨G2, hG2⟩ := HS.out.1.take HH.out.2.2.2.2.2.2.1 HH.out.2.2.2.2.1 hh4 hwc2 hp4
            have HG2 := Lib.hid hG2
            clear hwc2 hp4 hh4 hG2
            go_roundg (m.obs.length - (k + 1))
            case measure => have := HS.out.2; omega
            case rel => exact ⟨k + 1, G2, rfl, hlt, by rw [HM.out]; go_num, by go_num, HG2.out⟩
    · have hk2 : k = m.obs.length := by omega
      subst hk2
      clear hlt hk
      go_wp2
      go_ret
      exact ⟨b, HB.out.1, HB.out.2.1, rfl, ⟨HS.out.1.keeps, G', HS.out.1.heap.toAt, HS.out.1.same⟩⟩
end Go.Proofs.YtleppjdmcjocmaaDoor
