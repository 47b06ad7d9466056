/- The contracts of Read and All. Conditions: unicode/utf8's two tables; strconv.ErrRange holds an error, or nil. -/
import Derived.Test.YtbbopdkbokbafaaGreatDoorRdForm
import Derived.Test.YtbbopdkbokbafaaGreatDoorRdTop1
import Derived.Defers
import Derived.Recover
namespace Go.Proofs.YtbbopdkbokbafaaGreatDoor
open Go.RowKit Go.Lib
theorem as_fault (v : Value) (w : World) : (Instr.typeAssert (.iface 31 v) 20 31 true).run Tryz.prog w = .ok (.tuple #[v, .bool true]) w := by kernel_rfl
theorem as_fault_nil (w : World) : (Instr.typeAssert .nilIface 20 31 true).run Tryz.prog w = .ok (.tuple #[.agg #[.int .i64 0, .int .i64 0], .bool false]) w := by kernel_rfl
theorem faultOf_some (er a : Int) (w : World) : Calls Tryz.prog 62 #[faultV er a] w fun e w' => e = .returned (fv er a) ∧ Below w.heap.size w w' := by
  have ha := as_fault (fv er a)
  go_enter Tryz.func62, Tryz.ntmps62
  go_wp2
  refine bodyPost_ret (v := fv er a) ?_ rfl ⟨rfl, ((Below.refl _ _).alloc (Nat.le_refl _) _).alloc (by simp) _⟩
  simp [results, Tryz.results62, go_sem]
theorem faultOf_nil (w : World) : Calls Tryz.prog 62 #[.nilIface] w fun e w' => e = .returned (fv 0 0) ∧ Below w.heap.size w w' := by
  have ha := as_fault_nil
  go_enter Tryz.func62, Tryz.ntmps62
  go_wp2
  refine bodyPost_ret (v := fv 0 0) ?_ rfl ⟨rfl, ((Below.refl _ _).alloc (Nat.le_refl _) _).alloc (by simp) _⟩
  simp [results, Tryz.results62, go_sem]
theorem catch_panicking (b : Nat) (er a x y : Int) (older : List PanicEntry) (w : World) (hb : w.heap[b]? = some (.cells #[.int .i64 x, .int .i64 y] 31 (0, 0))) :
    CallsD Tryz.prog 61 #[.pointer (some ⟨b, 0, none⟩)] (.panicking ({ v := faultV er a, recovered := false } :: older)) w fun e u' w' =>
      e = .returned (.tuple #[]) ∧ u' = .panicking ({ v := faultV er a, recovered := true } :: older) ∧ ∃ W, Below w.heap.size w W ∧ w' = (W.setCell ⟨b, 0, none⟩ (.int .i64 er)).setCell ⟨b, 1, none⟩ (.int .i64 a) := by
  refine callsD_of_wpS Tryz.func61 rfl fun c₀ cs hu => ?_
  apply wpS_region
  simp [wpOpsS, go_sem, recoverD, hu, Tryz.ntmps61]
  refine (faultOf_some er a w).mono ?_
  rintro e W ⟨rfl, hW⟩
  have k0 := (hW.block b (lt_at hb)).trans hb
  have c0 : W.cell? ⟨b, 0, none⟩ = some (.int .i64 x) := cell_at k0
  have c1 : W.cell? ⟨b, 1, none⟩ = some (.int .i64 y) := cell_at k0
  have f0 : W.frozen? ⟨b, 0, none⟩ = false := frozen_at k0
  have f1 : W.frozen? ⟨b, 1, none⟩ = false := frozen_at k0
  simp [go_sem, c0, c1, f0, f1, bodyPostS, results, Tryz.results61]
  exact ⟨W, hW, rfl⟩
theorem catch_idle (b : Nat) (x y : Int) (w : World) (hb : w.heap[b]? = some (.cells #[.int .i64 x, .int .i64 y] 31 (0, 0))) :
    CallsD Tryz.prog 61 #[.pointer (some ⟨b, 0, none⟩)] .returning w fun e u' w' =>
      e = .returned (.tuple #[]) ∧ u' = .returning ∧ ∃ W, Below w.heap.size w W ∧ w' = (W.setCell ⟨b, 0, none⟩ (.int .i64 0)).setCell ⟨b, 1, none⟩ (.int .i64 0) := by
  refine callsD_of_wpS Tryz.func61 rfl fun c₀ cs hu => ?_
  apply wpS_region
  simp [wpOpsS, go_sem, recoverD, hu, Tryz.ntmps61]
  refine (faultOf_nil w).mono ?_
  rintro e W ⟨rfl, hW⟩
  have k0 := (hW.block b (lt_at hb)).trans hb
  have c0 : W.cell? ⟨b, 0, none⟩ = some (.int .i64 x) := cell_at k0
  have c1 : W.cell? ⟨b, 1, none⟩ = some (.int .i64 y) := cell_at k0
  have f0 : W.frozen? ⟨b, 0, none⟩ = false := frozen_at k0
  have f1 : W.frozen? ⟨b, 1, none⟩ = false := frozen_at k0
  simp [go_sem, c0, c1, f0, f1, bodyPostS, results, Tryz.results61]
  exact ⟨.returning, by cases c₀; simp_all, rfl, W, hW, rfl⟩
theorem catchA_panicking (b : Nat) (er a x y : Int) (older : List PanicEntry) (w : World) (hb : w.heap[b]? = some (.cells #[.int .i64 x, .int .i64 y] 31 (0, 0))) :
    CallsD Tryz.prog 71 #[.pointer (some ⟨b, 0, none⟩)] (.panicking ({ v := faultV er a, recovered := false } :: older)) w fun e u' w' =>
      e = .returned (.tuple #[]) ∧ u' = .panicking ({ v := faultV er a, recovered := true } :: older) ∧ ∃ W, Below w.heap.size w W ∧ w' = (W.setCell ⟨b, 0, none⟩ (.int .i64 er)).setCell ⟨b, 1, none⟩ (.int .i64 a) := by
  refine callsD_of_wpS Tryz.func71 rfl fun c₀ cs hu => ?_
  apply wpS_region
  simp [wpOpsS, go_sem, recoverD, hu, Tryz.ntmps71]
  refine (faultOf_some er a w).mono ?_
  rintro e W ⟨rfl, hW⟩
  have k0 := (hW.block b (lt_at hb)).trans hb
  have c0 : W.cell? ⟨b, 0, none⟩ = some (.int .i64 x) := cell_at k0
  have c1 : W.cell? ⟨b, 1, none⟩ = some (.int .i64 y) := cell_at k0
  have f0 : W.frozen? ⟨b, 0, none⟩ = false := frozen_at k0
  have f1 : W.frozen? ⟨b, 1, none⟩ = false := frozen_at k0
  simp [go_sem, c0, c1, f0, f1, bodyPostS, results, Tryz.results71]
  exact ⟨W, hW, rfl⟩
theorem catchA_idle (b : Nat) (x y : Int) (w : World) (hb : w.heap[b]? = some (.cells #[.int .i64 x, .int .i64 y] 31 (0, 0))) :
    CallsD Tryz.prog 71 #[.pointer (some ⟨b, 0, none⟩)] .returning w fun e u' w' =>
      e = .returned (.tuple #[]) ∧ u' = .returning ∧ ∃ W, Below w.heap.size w W ∧ w' = (W.setCell ⟨b, 0, none⟩ (.int .i64 0)).setCell ⟨b, 1, none⟩ (.int .i64 0) := by
  refine callsD_of_wpS Tryz.func71 rfl fun c₀ cs hu => ?_
  apply wpS_region
  simp [wpOpsS, go_sem, recoverD, hu, Tryz.ntmps71]
  refine (faultOf_nil w).mono ?_
  rintro e W ⟨rfl, hW⟩
  have k0 := (hW.block b (lt_at hb)).trans hb
  have c0 : W.cell? ⟨b, 0, none⟩ = some (.int .i64 x) := cell_at k0
  have c1 : W.cell? ⟨b, 1, none⟩ = some (.int .i64 y) := cell_at k0
  have f0 : W.frozen? ⟨b, 0, none⟩ = false := frozen_at k0
  have f1 : W.frozen? ⟨b, 1, none⟩ = false := frozen_at k0
  simp [go_sem, c0, c1, f0, f1, bodyPostS, results, Tryz.results71]
  exact ⟨.returning, by cases c₀; simp_all, rfl, W, hW, rfl⟩
/-- The world with Read's places: the word's and the fault's. -/
abbrev rz (w : World) : World := ((w.alloc (.cells #[.int .i64 0, .int .i64 0] 28)).alloc (.cells #[.int .i64 0, .int .i64 0] 31))
theorem rz_below (w : World) : Below w.heap.size w (rz w) := ((Below.refl _ _).alloc (Nat.le_refl _) _).alloc (by simp) _
theorem rz_size (w : World) : (rz w).heap.size = w.heap.size + 2 := by simp
theorem rz_word (w : World) : (rz w).heap[w.heap.size]? = some (.cells #[.int .i64 0, .int .i64 0] 28 (0, 0)) := by
  rw [Below.heap_alloc _ _ _ (by simp)]; exact alloc_at w _
theorem rz_fault (w : World) : (rz w).heap[w.heap.size + 1]? = some (.cells #[.int .i64 0, .int .i64 0] 31 (0, 0)) := by
  have := alloc_at (w.alloc (.cells #[.int .i64 0, .int .i64 0] 28)) (.cells #[.int .i64 0, .int .i64 0] 31)
  simpa using this
set_option maxHeartbeats 1000000 in
theorem read_bad {w0 w : World} {hb tb : Nat} {F : Nat → Nat} {h : Hp} {t : Tb} (H : HT w0 w hb tb F h t) (hT : Tabs w0) (x : ByteArray) (hx : x.size ≤ 100000) (hv : validD x.data.toList = false) (p : Int) :
    Calls Tryz.prog 17 #[hptr hb, hptr tb, .string x, .int .i64 p] w fun e w' => e = .returned (.tuple #[wv (0, 0), .int .i64 0, fv 5 0]) ∧ Below w.heap.size w w' := by
  have hmf : ∀ (fn : Fn) (first cap : Array Value) (w : World), (Instr.makeFunc fn first cap).run Tryz.prog w = .ok (.func fn first cap) w := fun _ _ _ _ => rfl
  have cB := begin_bad (H.junk (rz_below w)) hT x hx hv
  clear H
  go_enter_defers Tryz.func17, Tryz.ntmps17
  go_wp2_with fail
  refine cB.mono ?_
  rintro e W ⟨rfl, hb1⟩
  have HB := Lib.hid hb1
  clear hb1
  go_wp2
  refine leaves_cons (f := 61) (args := #[.pointer (some ⟨w.heap.size + 1, 0, none⟩)]) (by simp) (by simp [go_sem]) ?_
  have kf := (HB.out.block _ (by rw [rz_size]; omega)).trans (rz_fault w)
  have kw := (HB.out.block _ (by rw [rz_size]; omega)).trans (rz_word w)
  refine (catch_panicking (w.heap.size + 1) 5 0 0 0 [] W kf).mono ?_
  rintro e u' w2 ⟨rfl, rfl, W2, hW2, rfl⟩
  have kw2 := (hW2.block _ (lt_at kw)).trans kw
  have kf2 := (hW2.block _ (lt_at kf)).trans kf
  have hbel : Below w.heap.size w W2 := ((rz_below w).trans (HB.out.mono (by rw [rz_size]; omega))).trans (hW2.mono (by have := HB.out.size; rw [rz_size] at this; omega))
  have kf3 := setCell_at (i := 1) (setCell_at (i := 0) kf2 (.int .i64 5)) (.int .i64 0)
  have kw3 : ((W2.setCell ⟨w.heap.size + 1, 0, none⟩ (.int .i64 5)).setCell ⟨w.heap.size + 1, 1, none⟩ (.int .i64 0)).heap[w.heap.size]? = some (.cells #[.int .i64 0, .int .i64 0] 28 (0, 0)) := by
    rw [setCell_off _ (by simp), setCell_off _ (by simp)]; exact kw2
  have q0 : ((W2.setCell ⟨w.heap.size + 1, 0, none⟩ (.int .i64 5)).setCell ⟨w.heap.size + 1, 1, none⟩ (.int .i64 0)).cell? ⟨w.heap.size, 0, none⟩ = some (.int .i64 0) := cell_at kw3
  have q1 : ((W2.setCell ⟨w.heap.size + 1, 0, none⟩ (.int .i64 5)).setCell ⟨w.heap.size + 1, 1, none⟩ (.int .i64 0)).cell? ⟨w.heap.size, 1, none⟩ = some (.int .i64 0) := cell_at kw3
  have q2 : ((W2.setCell ⟨w.heap.size + 1, 0, none⟩ (.int .i64 5)).setCell ⟨w.heap.size + 1, 1, none⟩ (.int .i64 0)).cell? ⟨w.heap.size + 1, 0, none⟩ = some (.int .i64 5) := (cell_at kf3).trans (by simp)
  have q3 : ((W2.setCell ⟨w.heap.size + 1, 0, none⟩ (.int .i64 5)).setCell ⟨w.heap.size + 1, 1, none⟩ (.int .i64 0)).cell? ⟨w.heap.size + 1, 1, none⟩ = some (.int .i64 0) := (cell_at kf3).trans (by simp)
  have hfin : Below w.heap.size w ((W2.setCell ⟨w.heap.size + 1, 0, none⟩ (.int .i64 5)).setCell ⟨w.heap.size + 1, 1, none⟩ (.int .i64 0)) := (hbel.setCell (p := ⟨w.heap.size + 1, 0, none⟩) (by simp) _).setCell (p := ⟨w.heap.size + 1, 1, none⟩) (by simp) _
  generalize (W2.setCell ⟨w.heap.size + 1, 0, none⟩ (.int .i64 5)).setCell ⟨w.heap.size + 1, 1, none⟩ (.int .i64 0) = W3 at *
  simp [Leaves, settle, results, Tryz.results17, go_sem, q0, q1, q2, q3]
  exact hfin
end Go.Proofs.YtbbopdkbokbafaaGreatDoor
