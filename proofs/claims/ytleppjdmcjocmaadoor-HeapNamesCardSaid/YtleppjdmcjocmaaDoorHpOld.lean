/- An object under a free number: least, place. -/
import Derived.Test.YtleppjdmcjocmaaDoorHpPop
import Derived.Test.YtleppjdmcjocmaaDoorHpSweep
namespace Go.Proofs.YtleppjdmcjocmaaDoor
open Go.RowKit Go.Lib
set_option maxHeartbeats 2000000 in
theorem least_any (hb : Nat) (l : List Int) (lim vo vf st : Value) (G : Nat → Nat) (w : World) (h0 : 0 < l.length) (hl : l.length ≤ 65536) (hh : w.heap[hb]? = some (.cells #[lim, vo, vf, st] 67 (0, 0))) (hG : G hb = 1)
    (hr : Row w G 3 3 1 vf l.length (ints l)) :
    Calls Tryd.prog 59 #[nptr hb] w fun e w' => e = .returned (.int .i64 (leastL l)) ∧ Popped w w' hb G lim vo st (restL l) := by
  have cP := hpop_any hb l lim vo vf st G w h0 hl hh hG hr
  have CP := Lib.hid cP
  have hta : ∀ w : World, (Instr.typeAssert (.iface 3 (.int .i64 (leastL l))) 20 3 false).run Tryd.prog w = .ok (.int .i64 (leastL l)) w := fun w => by kernel_rfl
  clear cP hh hG hr h0 hl
  go_enter Tryd.func59, Tryd.ntmps59
  go_wp2_with fail
  refine CP.out.mono ?_
  rintro e w2 ⟨rfl, hk2⟩
  have HF := Lib.hid hk2
  clear hk2
  go_wp2
  go_ret
  exact ⟨rfl, HF.out⟩
set_option maxHeartbeats 2000000 in
/-- place where a number is free. -/
theorem place_old (hb n i : Nat) (l : List Int) (lim st : Int) (vo vf : Value) (T : TypeId) (p : Value) (xs : List Value) (G : Nat → Nat) (w : World) (h0 : 0 < l.length) (hl : l.length ≤ 65536) (hi : leastL l = (i : Int)) (hin : i < n) (hn : n ≤ 65536)
    (hh : w.heap[hb]? = some (.cells #[.int .i64 lim, vo, vf, .int .i64 st] 67 (0, 0))) (hG : G hb = 1) (hr : Row w G 2 80 1 vo n xs) (hf : Row w G 3 3 1 vf l.length (ints l)) :
    Calls Tryd.prog 51 #[hptr hb, .iface T p] w fun e w' => e = .returned (.int .i64 i) ∧ ∃ w1, Popped w w1 hb G (.int .i64 lim) vo (.int .i64 st) (restL l) ∧ ∃ g cap, vo = .slice (some ⟨g, 0, none⟩) n cap ∧ w' = w1.setCell ⟨g, i, none⟩ (.iface T p) := by
  obtain ⟨g, cap, cur, rfl, lg, kg, hnc, hcm, hcs, htk⟩ := hr.at (by omega)
  obtain ⟨fa, fc, rfl⟩ := hf.slice
  have c2 : w.cell? ⟨hb, 2, none⟩ = some (.slice fa l.length fc) := cell_at hh
  have h0' : ((l.length : Int) == 0) = false := by rw [beq_eq_false_iff_ne]; omega
  have hne : l.length ≠ 0 := by omega
  have cL := least_any hb l (.int .i64 lim) (.slice (some ⟨g, 0, none⟩) n cap) (.slice fa l.length fc) (.int .i64 st) G w h0 hl hh hG hf
  rw [hi] at cL
  have CL := Lib.hid cL
  have H := Lib.hid (And.intro lg (And.intro kg hG))
  have hbl := lt_at hh
  obtain ⟨u, hu⟩ : ∃ u, xs[i]? = some u := ⟨_, List.getElem?_eq_getElem (by have := hr.length; omega)⟩
  have hcu := hr.cell hu
  have HU := Lib.hid hcu
  clear cL lg kg hG hh hr hf hu hcu hi h0
  go_enter Tryd.func51, Tryd.ntmps51
  go_wp2_with fail
  refine CL.out.mono ?_
  rintro e w1 ⟨rfl, hp⟩
  obtain ⟨g3, cap3, hh1, _, _⟩ := hp.lies
  have d1 : w1.cell? ⟨hb, 1, none⟩ = some (.slice (some ⟨g, 0, none⟩) n cap) := cell_at hh1
  have kg1 := (hp.block g (by rw [H.out.1]; decide) (by rw [H.out.1]; decide)).trans H.out.2.1
  have f1 : w1.frozen? ⟨g, i, none⟩ = false := frozen_at kg1
  have e1 : w1.cell? ⟨g, i, none⟩ = some u := (cell_at kg1).trans ((cell_at H.out.2.1).symm.trans HU.out)
  have HP := Lib.hid hp
  clear hp hh1 kg1 c2
  go_wp2
  go_ret
  exact ⟨rfl, w1, HP.out, g, cap, rfl, rfl⟩
end Go.Proofs.YtleppjdmcjocmaaDoor
