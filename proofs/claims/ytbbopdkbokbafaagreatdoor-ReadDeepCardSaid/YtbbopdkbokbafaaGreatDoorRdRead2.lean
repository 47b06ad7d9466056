/- Read of a valid text. -/
import Derived.Test.YtbbopdkbokbafaaGreatDoorRdRead
namespace Go.Proofs.YtbbopdkbokbafaaGreatDoor
open Go.RowKit Go.Lib
/-- What Read answers. -/
def ReadDoes (w0 w : World) (hb tb : Nat) (F : Nat → Nat) (o : Out Wd) (e : Ending) (w' : World) : Prop :=
  match o with
  | .ok x s' => e = .returned (.tuple #[wv x, .int .i64 s'.pos, fv 0 0]) ∧ WentHT w0 w w' hb tb F s'.h s'.t
  | .bad er a s' => e = .returned (.tuple #[wv (0, 0), .int .i64 0, fv er a]) ∧ WentHT w0 w w' hb tb F s'.h s'.t
  | .lost => True
theorem door_ht {w0 w W w' : World} {r : Rd} {F : Nat → Nat} {h : Hp} {t : Tb} {s' : Rs} (H : HT w0 w r.hb r.tb F h t) (hb : Below (rz w).heap.size (rz w) W) (hpb : (rz w).heap.size ≤ r.pb) (hw : BadR w0 W w' r F s') :
    w'.heap[w.heap.size]? = some (.cells #[.int .i64 0, .int .i64 0] 28 (0, 0)) ∧ w'.heap[w.heap.size + 1]? = some (.cells #[.int .i64 0, .int .i64 0] 31 (0, 0)) ∧ ∀ W3 : World, (W3.os = w'.os ∧ W3.tape = w'.tape ∧ W3.output = w'.output) → w'.heap.size ≤ W3.heap.size → (∀ k, k < w'.heap.size → k ≠ w.heap.size → k ≠ w.heap.size + 1 → W3.heap[k]? = w'.heap[k]?) → WentHT w0 w W3 r.hb r.tb F s'.h s'.t := by
  rw [rz_size] at hb hpb
  have hz : ∀ k, w.heap.size ≤ k → F k = 0 := H.new
  have hsz := hb.size
  have hw0 := H.below.size
  have kw := (hb.block _ (by omega)).trans (rz_word w)
  have kf := (hb.block _ (by omega)).trans (rz_fault w)
  have hb0 : Below w.heap.size w W := (rz_below w).trans (hb.mono (by omega))
  rw [rz_size] at hsz
  obtain ⟨hk, F', h1, h2⟩ := hw
  refine ⟨(hk.block _ (by omega) (foot_zero.2 ⟨by omega, hz _ (by omega)⟩)).trans kw, (hk.block _ (by omega) (foot_zero.2 ⟨by omega, hz _ (by omega)⟩)).trans kf, fun W3 hos hs hbl => ?_⟩
  have hks := hk.size
  refine ⟨⟨hos.1.trans (hk.os.trans hb0.os), hos.2.1.trans (hk.tape.trans hb0.tape), hos.2.2.trans (hk.output.trans hb0.output), by omega, fun k hk1 hk2 => (hbl k (by omega) (by omega) (by omega)).trans ((hk.block k (by omega) (foot_zero.2 ⟨by omega, hk2⟩)).trans (hb0.block k hk1))⟩, F', h1.keep ⟨hos.1.trans h1.below.os, hos.2.1.trans h1.below.tape, hos.2.2.trans h1.below.output, Nat.le_trans h1.below.size hs, fun k hk1 => (hbl k (by have := h1.below.size; omega) (by omega) (by omega)).trans (h1.below.block k hk1)⟩ fun k hk1 hk2 => hbl k hk1 (fun e => hk2 (by rw [e]; exact (h2 _ (by omega)).2 (hz _ (by omega)))) (fun e => hk2 (by rw [e]; exact (h2 _ (by omega)).2 (hz _ (by omega)))), fun k hk1 => h2 k (by omega)⟩
set_option maxHeartbeats 1000000 in
theorem read_place {w0 w : World} {hb tb : Nat} {F : Nat → Nat} {h : Hp} {t : Tb} (H : HT w0 w hb tb F h t) (hT : Tabs w0) (x : ByteArray) (hx : x.size ≤ 100000) (hv : validD x.data.toList = true) {L : List Int} (hL : runesD x.data.toList = L) (p : Int) (hp : p < 0 ∨ (L.length : Int) < p) :
    Calls Tryz.prog 17 #[hptr hb, hptr tb, .string x, .int .i64 p] w fun e w' => ReadDoes w0 w hb tb F (.bad 3 0 ⟨h, t, 0, 0⟩) e w' := by
  have hmf : ∀ (fn : Fn) (first cap : Array Value) (w : World), (Instr.makeFunc fn first cap).run Tryz.prog w = .ok (.func fn first cap) w := fun _ _ _ _ => rfl
  have cB := begin_ok (H.junk (rz_below w)) hT x hx hv
  have H0 := Lib.hid H
  clear H
  go_enter_defers Tryz.func17, Tryz.ntmps17
  go_wp2_with fail
  refine cB.mono ?_
  rintro e W ⟨r, er1, er2, er3, rfl, hb1, hpb, hR⟩
  rw [hL] at er3
  subst er3
  subst er1 er2
  have HB := Lib.hid (And.intro hb1 hpb)
  clear hb1 hpb cB
  go_wp2_with fail
  refine (moveTo_bad hR p hp).mono ?_
  rintro e W2 ⟨rfl, hb2⟩
  have DR := Lib.hid (door_ht H0.out HB.out.1 HB.out.2 (WentR.of_below hR hb2).bad)
  clear hR hb2
  go_wp2
  have kw := DR.out.1
  have kf := DR.out.2.1
  refine leaves_cons (f := 61) (args := #[.pointer (some ⟨w.heap.size + 1, 0, none⟩)]) (by simp) (by simp [go_sem]) ?_
  refine (catch_panicking (w.heap.size + 1) 3 0 0 0 [] W2 kf).mono ?_
  rintro e u' w2 ⟨rfl, rfl, D2, hD2, rfl⟩
  have HD := Lib.hid hD2
  have kw2 := (hD2.block _ (lt_at kw)).trans kw
  have kf2 := (hD2.block _ (lt_at kf)).trans kf
  have kf3 := setCell_at (i := 1) (setCell_at (i := 0) kf2 (.int .i64 3)) (.int .i64 0)
  have kw3 : ((D2.setCell ⟨w.heap.size + 1, 0, none⟩ (.int .i64 3)).setCell ⟨w.heap.size + 1, 1, none⟩ (.int .i64 0)).heap[w.heap.size]? = some (.cells #[.int .i64 0, .int .i64 0] 28 (0, 0)) := by
    rw [setCell_off _ (by simp), setCell_off _ (by simp)]; exact kw2
  have q0 : ((D2.setCell ⟨w.heap.size + 1, 0, none⟩ (.int .i64 3)).setCell ⟨w.heap.size + 1, 1, none⟩ (.int .i64 0)).cell? ⟨w.heap.size, 0, none⟩ = some (.int .i64 0) := cell_at kw3
  have q1 : ((D2.setCell ⟨w.heap.size + 1, 0, none⟩ (.int .i64 3)).setCell ⟨w.heap.size + 1, 1, none⟩ (.int .i64 0)).cell? ⟨w.heap.size, 1, none⟩ = some (.int .i64 0) := cell_at kw3
  have q2 : ((D2.setCell ⟨w.heap.size + 1, 0, none⟩ (.int .i64 3)).setCell ⟨w.heap.size + 1, 1, none⟩ (.int .i64 0)).cell? ⟨w.heap.size + 1, 0, none⟩ = some (.int .i64 3) := (cell_at kf3).trans (by simp)
  have q3 : ((D2.setCell ⟨w.heap.size + 1, 0, none⟩ (.int .i64 3)).setCell ⟨w.heap.size + 1, 1, none⟩ (.int .i64 0)).cell? ⟨w.heap.size + 1, 1, none⟩ = some (.int .i64 0) := (cell_at kf3).trans (by simp)
  have hfin := DR.out.2.2 ((D2.setCell ⟨w.heap.size + 1, 0, none⟩ (.int .i64 3)).setCell ⟨w.heap.size + 1, 1, none⟩ (.int .i64 0)) ⟨HD.out.os, HD.out.tape, HD.out.output⟩ (by simpa [World.setCell] using HD.out.size) (fun k hk n1 n2 => by rw [setCell_off _ (by simpa using n2), setCell_off _ (by simpa using n2)]; exact HD.out.block k hk)
  have HFIN := Lib.hid hfin
  clear hfin kf3 kw3 kw2 kf2 hD2
  generalize (D2.setCell ⟨w.heap.size + 1, 0, none⟩ (.int .i64 3)).setCell ⟨w.heap.size + 1, 1, none⟩ (.int .i64 0) = W9 at *
  simp [Leaves, settle, results, Tryz.results17, go_sem, q0, q1, q2, q3]
  exact ⟨rfl, HFIN.out⟩
set_option maxHeartbeats 1000000 in
theorem read_end {w0 w : World} {hb tb : Nat} {F : Nat → Nat} {h : Hp} {t : Tb} (H : HT w0 w hb tb F h t) (hT : Tabs w0) (x : ByteArray) (hx : x.size ≤ 100000) (hv : validD x.data.toList = true) {L : List Int} (hL : runesD x.data.toList = L) (p : Nat) (hp : p ≤ L.length) (he : ch L (skipTo L p) = -1) :
    Calls Tryz.prog 17 #[hptr hb, hptr tb, .string x, .int .i64 p] w fun e w' => ReadDoes w0 w hb tb F (.bad 13 (skipTo L p) ⟨h, t, skipTo L p, 0⟩) e w' := by
  have hmf : ∀ (fn : Fn) (first cap : Array Value) (w : World), (Instr.makeFunc fn first cap).run Tryz.prog w = .ok (.func fn first cap) w := fun _ _ _ _ => rfl
  have cB := begin_ok (H.junk (rz_below w)) hT x hx hv
  have H0 := Lib.hid H
  clear H
  go_enter_defers Tryz.func17, Tryz.ntmps17
  go_wp2_with fail
  refine cB.mono ?_
  rintro e W ⟨r, er1, er2, er3, rfl, hb1, hpb, hR⟩
  rw [hL] at er3
  subst er3
  subst er1 er2
  have HB := Lib.hid (And.intro hb1 hpb)
  clear hb1 hpb cB
  go_wp2_with fail
  refine (moveTo_ok hR p hp).mono ?_
  rintro e W2 ⟨rfl, hm⟩
  have HM := Lib.hid (And.intro hR hm)
  have cM := more_any hm.rd
  clear hR hm
  simp only [he] at cM
  go_wp2_with fail
  refine cM.mono ?_
  rintro e W3 ⟨rfl, hm3⟩
  have HM3 := Lib.hid (HM.out.2.trans hm3)
  have c3 : W3.cell? ⟨r.pb, 3, none⟩ = some (.int .i64 (skipTo r.L p : Nat)) := cell_at hm3.rd.own
  clear hm3 cM
  go_wp2_with fail
  refine (fault_any 13 (skipTo r.L p : Nat) _).mono ?_
  rintro e W4 ⟨rfl, hb4⟩
  have DR := Lib.hid (door_ht H0.out HB.out.1 HB.out.2 (HM3.out.junk hb4).went.bad)
  clear hb4 c3
  go_wp2
  have kw := DR.out.1
  have kf := DR.out.2.1
  refine leaves_cons (f := 61) (args := #[.pointer (some ⟨w.heap.size + 1, 0, none⟩)]) (by simp) (by simp [go_sem]) ?_
  refine (catch_panicking (w.heap.size + 1) 13 (skipTo r.L p : Nat) 0 0 [] W4 kf).mono ?_
  rintro e u' w2 ⟨rfl, rfl, D2, hD2, rfl⟩
  have HD := Lib.hid hD2
  have kw2 := (hD2.block _ (lt_at kw)).trans kw
  have kf2 := (hD2.block _ (lt_at kf)).trans kf
  have kf3 := setCell_at (i := 1) (setCell_at (i := 0) kf2 (.int .i64 13)) (.int .i64 (skipTo r.L p : Nat))
  have kw3 : ((D2.setCell ⟨w.heap.size + 1, 0, none⟩ (.int .i64 13)).setCell ⟨w.heap.size + 1, 1, none⟩ (.int .i64 (skipTo r.L p : Nat))).heap[w.heap.size]? = some (.cells #[.int .i64 0, .int .i64 0] 28 (0, 0)) := by
    rw [setCell_off _ (by simp), setCell_off _ (by simp)]; exact kw2
  have q0 : ((D2.setCell ⟨w.heap.size + 1, 0, none⟩ (.int .i64 13)).setCell ⟨w.heap.size + 1, 1, none⟩ (.int .i64 (skipTo r.L p : Nat))).cell? ⟨w.heap.size, 0, none⟩ = some (.int .i64 0) := cell_at kw3
  have q1 : ((D2.setCell ⟨w.heap.size + 1, 0, none⟩ (.int .i64 13)).setCell ⟨w.heap.size + 1, 1, none⟩ (.int .i64 (skipTo r.L p : Nat))).cell? ⟨w.heap.size, 1, none⟩ = some (.int .i64 0) := cell_at kw3
  have q2 : ((D2.setCell ⟨w.heap.size + 1, 0, none⟩ (.int .i64 13)).setCell ⟨w.heap.size + 1, 1, none⟩ (.int .i64 (skipTo r.L p : Nat))).cell? ⟨w.heap.size + 1, 0, none⟩ = some (.int .i64 13) := (cell_at kf3).trans (by simp)
  have q3 : ((D2.setCell ⟨w.heap.size + 1, 0, none⟩ (.int .i64 13)).setCell ⟨w.heap.size + 1, 1, none⟩ (.int .i64 (skipTo r.L p : Nat))).cell? ⟨w.heap.size + 1, 1, none⟩ = some (.int .i64 (skipTo r.L p : Nat)) := (cell_at kf3).trans (by simp)
  have hfin := DR.out.2.2 ((D2.setCell ⟨w.heap.size + 1, 0, none⟩ (.int .i64 13)).setCell ⟨w.heap.size + 1, 1, none⟩ (.int .i64 (skipTo r.L p : Nat))) ⟨HD.out.os, HD.out.tape, HD.out.output⟩ (by simpa [World.setCell] using HD.out.size) (fun k hk n1 n2 => by rw [setCell_off _ (by simpa using n2), setCell_off _ (by simpa using n2)]; exact HD.out.block k hk)
  have HFIN := Lib.hid hfin
  clear hfin kf3 kw3 kw2 kf2 hD2
  generalize (D2.setCell ⟨w.heap.size + 1, 0, none⟩ (.int .i64 13)).setCell ⟨w.heap.size + 1, 1, none⟩ (.int .i64 (skipTo r.L p : Nat)) = W9 at *
  simp [Leaves, settle, results, Tryz.results17, go_sem, q0, q1, q2, q3]
  exact ⟨rfl, HFIN.out⟩
set_option maxHeartbeats 1000000 in
theorem read_form {w0 w : World} {hb tb : Nat} {F : Nat → Nat} {h : Hp} {t : Tb} (H : HT w0 w hb tb F h t) (hT : Tabs w0) (x : ByteArray) (hx : x.size ≤ 100000) (hv : validD x.data.toList = true) {L : List Int} {o : Out Wd} (hL : runesD x.data.toList = L) (p : Nat) (hp : p ≤ L.length) (he : ch L (skipTo L p) ≠ -1) (cF : ∀ r W F', r.L = L → RdAt w0 W r F' ⟨h, t, skipTo L p, 0⟩ → Calls Tryz.prog 67 #[rp r] W fun e w' => Does w0 W r F' o e w') (ho : o ≠ .lost) :
    Calls Tryz.prog 17 #[hptr hb, hptr tb, .string x, .int .i64 p] w fun e w' => ReadDoes w0 w hb tb F (o) e w' := by
  have hmf : ∀ (fn : Fn) (first cap : Array Value) (w : World), (Instr.makeFunc fn first cap).run Tryz.prog w = .ok (.func fn first cap) w := fun _ _ _ _ => rfl
  have cB := begin_ok (H.junk (rz_below w)) hT x hx hv
  have H0 := Lib.hid H
  clear H
  go_enter_defers Tryz.func17, Tryz.ntmps17
  go_wp2_with fail
  refine cB.mono ?_
  rintro e W ⟨r, er1, er2, er3, rfl, hb1, hpb, hR⟩
  rw [hL] at er3
  subst er3
  subst er1 er2
  have HB := Lib.hid (And.intro hb1 hpb)
  clear hb1 hpb cB
  go_wp2_with fail
  refine (moveTo_ok hR p hp).mono ?_
  rintro e W2 ⟨rfl, hm⟩
  have HM := Lib.hid (And.intro hR hm)
  have cM := more_any hm.rd
  have CF := Lib.hid cF
  clear hR hm cF
  have he2 : (ch r.L (skipTo r.L p) != -1) = true := by simpa using he
  simp only [he2] at cM
  clear he2
  go_wp2_with fail
  refine cM.mono ?_
  rintro e W3 ⟨rfl, hm3⟩
  have HM3 := Lib.hid (HM.out.2.trans hm3)
  clear hm3 cM
  go_wp2_with fail
  refine (CF.out r W3 F rfl HM3.out.rd).mono ?_
  intro e W4 hD
  cases o with
  | lost => exact absurd rfl ho
  | bad er a s' =>
    obtain ⟨rfl, hw4⟩ := hD
    have DR := Lib.hid (door_ht H0.out HB.out.1 HB.out.2 (HM3.out.after_bad hw4))
    clear hw4
    go_wp2
    have kw := DR.out.1
    have kf := DR.out.2.1
    refine leaves_cons (f := 61) (args := #[.pointer (some ⟨w.heap.size + 1, 0, none⟩)]) (by simp) (by simp [go_sem]) ?_
    refine (catch_panicking (w.heap.size + 1) er a 0 0 [] W4 kf).mono ?_
    rintro e u' w2 ⟨rfl, rfl, D2, hD2, rfl⟩
    have HD := Lib.hid hD2
    have kw2 := (hD2.block _ (lt_at kw)).trans kw
    have kf2 := (hD2.block _ (lt_at kf)).trans kf
    have kf3 := setCell_at (i := 1) (setCell_at (i := 0) kf2 (.int .i64 er)) (.int .i64 a)
    have kw3 : ((D2.setCell ⟨w.heap.size + 1, 0, none⟩ (.int .i64 er)).setCell ⟨w.heap.size + 1, 1, none⟩ (.int .i64 a)).heap[w.heap.size]? = some (.cells #[.int .i64 0, .int .i64 0] 28 (0, 0)) := by
      rw [setCell_off _ (by simp), setCell_off _ (by simp)]; exact kw2
    have q0 : ((D2.setCell ⟨w.heap.size + 1, 0, none⟩ (.int .i64 er)).setCell ⟨w.heap.size + 1, 1, none⟩ (.int .i64 a)).cell? ⟨w.heap.size, 0, none⟩ = some (.int .i64 0) := cell_at kw3
    have q1 : ((D2.setCell ⟨w.heap.size + 1, 0, none⟩ (.int .i64 er)).setCell ⟨w.heap.size + 1, 1, none⟩ (.int .i64 a)).cell? ⟨w.heap.size, 1, none⟩ = some (.int .i64 0) := cell_at kw3
    have q2 : ((D2.setCell ⟨w.heap.size + 1, 0, none⟩ (.int .i64 er)).setCell ⟨w.heap.size + 1, 1, none⟩ (.int .i64 a)).cell? ⟨w.heap.size + 1, 0, none⟩ = some (.int .i64 er) := (cell_at kf3).trans (by simp)
    have q3 : ((D2.setCell ⟨w.heap.size + 1, 0, none⟩ (.int .i64 er)).setCell ⟨w.heap.size + 1, 1, none⟩ (.int .i64 a)).cell? ⟨w.heap.size + 1, 1, none⟩ = some (.int .i64 a) := (cell_at kf3).trans (by simp)
    have hfin := DR.out.2.2 ((D2.setCell ⟨w.heap.size + 1, 0, none⟩ (.int .i64 er)).setCell ⟨w.heap.size + 1, 1, none⟩ (.int .i64 a)) ⟨HD.out.os, HD.out.tape, HD.out.output⟩ (by simpa [World.setCell] using HD.out.size) (fun k hk n1 n2 => by rw [setCell_off _ (by simpa using n2), setCell_off _ (by simpa using n2)]; exact HD.out.block k hk)
    have HFIN := Lib.hid hfin
    clear hfin kf3 kw3 kw2 kf2 hD2
    generalize (D2.setCell ⟨w.heap.size + 1, 0, none⟩ (.int .i64 er)).setCell ⟨w.heap.size + 1, 1, none⟩ (.int .i64 a) = W9 at *
    simp [Leaves, settle, results, Tryz.results17, go_sem, q0, q1, q2, q3]
    exact ⟨rfl, HFIN.out⟩
  | ok y s' =>
    obtain ⟨rfl, hw4⟩ := hD
    have hW4 := HM3.out.after hw4
    have DR := Lib.hid (door_ht H0.out HB.out.1 HB.out.2 hW4.bad)
    obtain ⟨F4, h4⟩ := hW4.rd
    have c3 : W4.cell? ⟨r.pb, 3, none⟩ = some (.int .i64 s'.pos) := cell_at h4.1.own
    have HW4 := Lib.hid (And.intro hW4 h4)
    have kw := DR.out.1
    have kf := DR.out.2.1
    have d0 : W4.cell? ⟨w.heap.size, 0, none⟩ = some (.int .i64 0) := cell_at kw
    have d1 : W4.cell? ⟨w.heap.size, 1, none⟩ = some (.int .i64 0) := cell_at kw
    have g0 : W4.frozen? ⟨w.heap.size, 0, none⟩ = false := frozen_at kw
    have g1 : W4.frozen? ⟨w.heap.size, 1, none⟩ = false := frozen_at kw
    have d2 : W4.cell? ⟨w.heap.size + 1, 0, none⟩ = some (.int .i64 0) := cell_at kf
    have d3 : W4.cell? ⟨w.heap.size + 1, 1, none⟩ = some (.int .i64 0) := cell_at kf
    have g2 : W4.frozen? ⟨w.heap.size + 1, 0, none⟩ = false := frozen_at kf
    have g3 : W4.frozen? ⟨w.heap.size + 1, 1, none⟩ = false := frozen_at kf
    have hpw : r.pb ≠ w.heap.size := by have := HB.out.2; rw [rz_size] at this; omega
    have hpf : r.pb ≠ w.heap.size + 1 := by have := HB.out.2; rw [rz_size] at this; omega
    clear hw4 hW4 h4 kw kf
    go_wp2
    have kw := DR.out.1
    have kf := DR.out.2.1
    have kw5 := setCell_at (i := 1) (setCell_at (i := 0) kw (.int .i64 y.1)) (.int .i64 y.2)
    have kf5 : ((W4.setCell ⟨w.heap.size, 0, none⟩ (.int .i64 y.1)).setCell ⟨w.heap.size, 1, none⟩ (.int .i64 y.2)).heap[w.heap.size + 1]? = some (.cells #[.int .i64 0, .int .i64 0] 31 (0, 0)) := by
      rw [setCell_off _ (by simp), setCell_off _ (by simp)]; exact kf
    have own5 : ((W4.setCell ⟨w.heap.size, 0, none⟩ (.int .i64 y.1)).setCell ⟨w.heap.size, 1, none⟩ (.int .i64 y.2)).heap[r.pb]? = W4.heap[r.pb]? := by rw [setCell_off _ hpw, setCell_off _ hpw]
    have q3 : ((W4.setCell ⟨w.heap.size, 0, none⟩ (.int .i64 y.1)).setCell ⟨w.heap.size, 1, none⟩ (.int .i64 y.2)).cell? ⟨r.pb, 3, none⟩ = some (.int .i64 s'.pos) := cell_at (own5.trans HW4.out.2.1.own)
    have D4 : ∀ W3 : World, (W3.os = ((W4.setCell ⟨w.heap.size, 0, none⟩ (.int .i64 y.1)).setCell ⟨w.heap.size, 1, none⟩ (.int .i64 y.2)).os ∧ W3.tape = ((W4.setCell ⟨w.heap.size, 0, none⟩ (.int .i64 y.1)).setCell ⟨w.heap.size, 1, none⟩ (.int .i64 y.2)).tape ∧ W3.output = ((W4.setCell ⟨w.heap.size, 0, none⟩ (.int .i64 y.1)).setCell ⟨w.heap.size, 1, none⟩ (.int .i64 y.2)).output) → ((W4.setCell ⟨w.heap.size, 0, none⟩ (.int .i64 y.1)).setCell ⟨w.heap.size, 1, none⟩ (.int .i64 y.2)).heap.size ≤ W3.heap.size → (∀ k, k < ((W4.setCell ⟨w.heap.size, 0, none⟩ (.int .i64 y.1)).setCell ⟨w.heap.size, 1, none⟩ (.int .i64 y.2)).heap.size → k ≠ w.heap.size → k ≠ w.heap.size + 1 → W3.heap[k]? = ((W4.setCell ⟨w.heap.size, 0, none⟩ (.int .i64 y.1)).setCell ⟨w.heap.size, 1, none⟩ (.int .i64 y.2)).heap[k]?) → WentHT w0 w W3 r.hb r.tb F s'.h s'.t := fun W3 a b c => DR.out.2.2 W3 a (by simpa [World.setCell] using b) fun k k1 k2 k3 => (c k (by simpa [World.setCell] using k1) k2 k3).trans (by rw [setCell_off _ k2, setCell_off _ k2])
    have D5 := Lib.hid D4
    clear D4 kw kf own5
    clear d0 d1 d2 d3 g0 g1 g2 g3 c3
    generalize (W4.setCell ⟨w.heap.size, 0, none⟩ (.int .i64 y.1)).setCell ⟨w.heap.size, 1, none⟩ (.int .i64 y.2) = W5 at *
    have d0 : W5.cell? ⟨w.heap.size, 0, none⟩ = some (.int .i64 y.1) := cell_at kw5
    have d1 : W5.cell? ⟨w.heap.size, 1, none⟩ = some (.int .i64 y.2) := cell_at kw5
    have g0 : W5.frozen? ⟨w.heap.size, 0, none⟩ = false := frozen_at kw5
    have g1 : W5.frozen? ⟨w.heap.size, 1, none⟩ = false := frozen_at kw5
    have d2 : W5.cell? ⟨w.heap.size + 1, 0, none⟩ = some (.int .i64 0) := cell_at kf5
    have d3 : W5.cell? ⟨w.heap.size + 1, 1, none⟩ = some (.int .i64 0) := cell_at kf5
    have g2 : W5.frozen? ⟨w.heap.size + 1, 0, none⟩ = false := frozen_at kf5
    have g3 : W5.frozen? ⟨w.heap.size + 1, 1, none⟩ = false := frozen_at kf5
    have K5 := Lib.hid (And.intro kw5 kf5)
    clear kw5 kf5 HW4 DR CF HM3 HM
    go_region
    have ke : ∀ (W : World) (k : Nat), W.drew.heap[k]? = W.heap[k]? := fun _ _ => rfl
    have kw6 := setCell_at (i := 1) (setCell_at (i := 0) K5.out.1 (.int .i64 y.1)) (.int .i64 y.2)
    have kw6' : ((((W5.setCell ⟨w.heap.size, 0, none⟩ (.int .i64 y.1)).setCell ⟨w.heap.size, 1, none⟩ (.int .i64 y.2)).setCell ⟨w.heap.size + 1, 0, none⟩ (.int .i64 0)).setCell ⟨w.heap.size + 1, 1, none⟩ (.int .i64 0)).drew.heap[w.heap.size]? = some (.cells #[.int .i64 y.1, .int .i64 y.2] 28 (0, 0)) := by
      rw [ke, setCell_off _ (by simp), setCell_off _ (by simp), kw6]
      simp
    have kf6 : ((((W5.setCell ⟨w.heap.size, 0, none⟩ (.int .i64 y.1)).setCell ⟨w.heap.size, 1, none⟩ (.int .i64 y.2)).setCell ⟨w.heap.size + 1, 0, none⟩ (.int .i64 0)).setCell ⟨w.heap.size + 1, 1, none⟩ (.int .i64 0)).drew.heap[w.heap.size + 1]? = some (.cells #[.int .i64 0, .int .i64 0] 31 (0, 0)) := by
      rw [ke]
      have k1 : ((W5.setCell ⟨w.heap.size, 0, none⟩ (.int .i64 y.1)).setCell ⟨w.heap.size, 1, none⟩ (.int .i64 y.2)).heap[w.heap.size + 1]? = some (.cells #[.int .i64 0, .int .i64 0] 31 (0, 0)) := by
        rw [setCell_off _ (by simp), setCell_off _ (by simp)]; exact K5.out.2
      have := setCell_at (i := 1) (setCell_at (i := 0) k1 (.int .i64 0)) (.int .i64 0)
      rw [this]
      simp
    have D6 : ∀ W3 : World, (W3.os = ((((W5.setCell ⟨w.heap.size, 0, none⟩ (.int .i64 y.1)).setCell ⟨w.heap.size, 1, none⟩ (.int .i64 y.2)).setCell ⟨w.heap.size + 1, 0, none⟩ (.int .i64 0)).setCell ⟨w.heap.size + 1, 1, none⟩ (.int .i64 0)).drew.os ∧ W3.tape = ((((W5.setCell ⟨w.heap.size, 0, none⟩ (.int .i64 y.1)).setCell ⟨w.heap.size, 1, none⟩ (.int .i64 y.2)).setCell ⟨w.heap.size + 1, 0, none⟩ (.int .i64 0)).setCell ⟨w.heap.size + 1, 1, none⟩ (.int .i64 0)).drew.tape ∧ W3.output = ((((W5.setCell ⟨w.heap.size, 0, none⟩ (.int .i64 y.1)).setCell ⟨w.heap.size, 1, none⟩ (.int .i64 y.2)).setCell ⟨w.heap.size + 1, 0, none⟩ (.int .i64 0)).setCell ⟨w.heap.size + 1, 1, none⟩ (.int .i64 0)).drew.output) → ((((W5.setCell ⟨w.heap.size, 0, none⟩ (.int .i64 y.1)).setCell ⟨w.heap.size, 1, none⟩ (.int .i64 y.2)).setCell ⟨w.heap.size + 1, 0, none⟩ (.int .i64 0)).setCell ⟨w.heap.size + 1, 1, none⟩ (.int .i64 0)).drew.heap.size ≤ W3.heap.size → (∀ k, k < ((((W5.setCell ⟨w.heap.size, 0, none⟩ (.int .i64 y.1)).setCell ⟨w.heap.size, 1, none⟩ (.int .i64 y.2)).setCell ⟨w.heap.size + 1, 0, none⟩ (.int .i64 0)).setCell ⟨w.heap.size + 1, 1, none⟩ (.int .i64 0)).drew.heap.size → k ≠ w.heap.size → k ≠ w.heap.size + 1 → W3.heap[k]? = ((((W5.setCell ⟨w.heap.size, 0, none⟩ (.int .i64 y.1)).setCell ⟨w.heap.size, 1, none⟩ (.int .i64 y.2)).setCell ⟨w.heap.size + 1, 0, none⟩ (.int .i64 0)).setCell ⟨w.heap.size + 1, 1, none⟩ (.int .i64 0)).drew.heap[k]?) → WentHT w0 w W3 r.hb r.tb F s'.h s'.t := fun W3 a b c => D5.out W3 a (by simpa [World.setCell] using b) fun k k1 k2 k3 => (c k (by simpa [World.setCell] using k1) k2 k3).trans (by rw [ke, setCell_off _ k3, setCell_off _ k3, setCell_off _ k2, setCell_off _ k2])
    have D7 := Lib.hid D6
    clear D6 d0 d1 d2 d3 g0 g1 g2 g3 q3 kw6 D5
    generalize ((((W5.setCell ⟨w.heap.size, 0, none⟩ (.int .i64 y.1)).setCell ⟨w.heap.size, 1, none⟩ (.int .i64 y.2)).setCell ⟨w.heap.size + 1, 0, none⟩ (.int .i64 0)).setCell ⟨w.heap.size + 1, 1, none⟩ (.int .i64 0)).drew = W6 at *
    have K6 := Lib.hid (And.intro kw6' kf6)
    clear kw6' kf6
    go_wp2
    have kw := K6.out.1
    have kf := K6.out.2
    refine leaves_cons (f := 61) (args := #[.pointer (some ⟨w.heap.size + 1, 0, none⟩)]) (by simp) (by simp [go_sem]) ?_
    refine (catch_idle (w.heap.size + 1) 0 0 W6 kf).mono ?_
    rintro e u' w2 ⟨rfl, rfl, D2, hD2, rfl⟩
    have HD := Lib.hid hD2
    have kw2 := (hD2.block _ (lt_at kw)).trans kw
    have kf2 := (hD2.block _ (lt_at kf)).trans kf
    have kf3 := setCell_at (i := 1) (setCell_at (i := 0) kf2 (.int .i64 0)) (.int .i64 0)
    have kw3 : ((D2.setCell ⟨w.heap.size + 1, 0, none⟩ (.int .i64 0)).setCell ⟨w.heap.size + 1, 1, none⟩ (.int .i64 0)).heap[w.heap.size]? = some (.cells #[.int .i64 y.1, .int .i64 y.2] 28 (0, 0)) := by
      rw [setCell_off _ (by simp), setCell_off _ (by simp)]; exact kw2
    have q0 : ((D2.setCell ⟨w.heap.size + 1, 0, none⟩ (.int .i64 0)).setCell ⟨w.heap.size + 1, 1, none⟩ (.int .i64 0)).cell? ⟨w.heap.size, 0, none⟩ = some (.int .i64 y.1) := cell_at kw3
    have q1 : ((D2.setCell ⟨w.heap.size + 1, 0, none⟩ (.int .i64 0)).setCell ⟨w.heap.size + 1, 1, none⟩ (.int .i64 0)).cell? ⟨w.heap.size, 1, none⟩ = some (.int .i64 y.2) := cell_at kw3
    have q2 : ((D2.setCell ⟨w.heap.size + 1, 0, none⟩ (.int .i64 0)).setCell ⟨w.heap.size + 1, 1, none⟩ (.int .i64 0)).cell? ⟨w.heap.size + 1, 0, none⟩ = some (.int .i64 0) := (cell_at kf3).trans (by simp)
    have q3 : ((D2.setCell ⟨w.heap.size + 1, 0, none⟩ (.int .i64 0)).setCell ⟨w.heap.size + 1, 1, none⟩ (.int .i64 0)).cell? ⟨w.heap.size + 1, 1, none⟩ = some (.int .i64 0) := (cell_at kf3).trans (by simp)
    have hfin := D7.out ((D2.setCell ⟨w.heap.size + 1, 0, none⟩ (.int .i64 0)).setCell ⟨w.heap.size + 1, 1, none⟩ (.int .i64 0)) ⟨HD.out.os, HD.out.tape, HD.out.output⟩ (by simpa [World.setCell] using HD.out.size) (fun k hk n1 n2 => by rw [setCell_off _ (by simpa using n2), setCell_off _ (by simpa using n2)]; exact HD.out.block k hk)
    have HFIN := Lib.hid hfin
    clear hfin kf3 kw3 kw2 kf2 hD2
    generalize (D2.setCell ⟨w.heap.size + 1, 0, none⟩ (.int .i64 0)).setCell ⟨w.heap.size + 1, 1, none⟩ (.int .i64 0) = W9 at *
    simp [Leaves, settle, results, Tryz.results17, go_sem, q0, q1, q2, q3]
    exact ⟨rfl, HFIN.out⟩
end Go.Proofs.YtbbopdkbokbafaaGreatDoor
