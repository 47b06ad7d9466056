/- How variables lie in memory; valid, check, Const, checkChange, home. -/
import Derived.Test.YtgkblfegjmeolaaVaStore3
import Derived.Deep.QuietTactic
import Derived.BigQuiet
namespace Go.Proofs.Ytgkblfegjmeolaa
open Go.RowKit Go.Lib
/-- A binding: scope, variable, what was recorded; where its function's two variables lie. -/
structure Bd where
  k : Nat
  n : Nat
  c : Cl
  p : Nat
  q : Nat
def Bd.out (b : Bd) : Nat × Nat × Cl := (b.k, b.n, b.c)
abbrev bfun (b : Bd) : Value := .func (.func 62) #[] #[hptr b.p, hptr b.q]
def bcells (l : List Bd) : List Value := l.flatMap fun b => [.int .i64 b.c.1.1, .int .i64 b.c.1.2, .bool b.c.2, bfun b]
abbrev iobj (n : Nat) : Obj := .cells #[.int .i64 (n : Int)] 3
structure Bd.Ok (b : Bd) (w : World) (G : Nat → Nat) : Prop where
  k : b.k ≤ 65536
  n : b.n < 16384
  p : w.heap[b.p]? = some (iobj b.k)
  q : w.heap[b.q]? = some (iobj b.n)
  lp : G b.p = 5
  lq : G b.q = 5
/-- Variables as plain data. -/
structure Vs where
  cells : Nat → Nat → Option Cl
  scope : Nat
  marks : Nat → Nat
  binds : List (Nat × Nat × Cl)
  cnt : Nat
def markF (f : Nat → Nat) : Nat → Option Value := fun n => if f n = 0 then none else some (.int .u8 (f n))
theorem markF_get (f : Nat → Nat) (n : Nat) : (markF f n).getD (.int .u8 0) = .int .u8 (f n) := by
  unfold markF
  split
  · rename_i h; rw [h]; rfl
  · rfl
structure VarsAt (w : World) (vb : Nat) (G : Nat → Nat) (m : Vs) : Prop where
  new : ∀ j, w.heap.size ≤ j → G j = 0
  lab : G vb = 1
  scope : m.scope ≤ 65536
  marks : ∀ n, m.marks n ≤ 3
  lies : ∃ cm mm bv sc cb bs, w.heap[vb]? = some (.cells #[.map (some cm), .int .i64 m.scope, .map (some mm), bv] 58 (0, 0)) ∧ G mm = 3 ∧ CellsAt w G m.cells m.cnt cm sc cb ∧ MapF w markE mm m.cnt (markF m.marks) ∧ Full sc cb ∧
    bs.map Bd.out = m.binds ∧ Row w G 4 68 4 bv bs.length (bcells bs) ∧ ∀ b ∈ bs, b.Ok w G
theorem VarsAt.lt {w : World} {vb : Nat} {G : Nat → Nat} {m : Vs} (h : VarsAt w vb G m) : vb < w.heap.size := by
  obtain ⟨cm, mm, bv, sc, cb, bs, h1, _⟩ := h.lies
  exact lt_at h1
theorem new_keep {w w' : World} {G : Nat → Nat} (hn : ∀ j, w.heap.size ≤ j → G j = 0) (hb : ∀ k, k < w.heap.size → G k ≠ 0 → w'.heap[k]? = w.heap[k]?) : ∀ j, w'.heap.size ≤ j → G j = 0 := by
  intro k hk
  by_cases hk' : w.heap.size ≤ k
  · exact hn k hk'
  · by_cases hz : G k = 0
    · exact hz
    · have h7 := hb k (by omega) hz
      rw [Array.getElem?_eq_none (by omega), Array.getElem?_eq_getElem (by omega)] at h7
      cases h7
theorem VarsAt.keep {w w' : World} {vb : Nat} {G : Nat → Nat} {m : Vs} (h : VarsAt w vb G m) (hb : ∀ k, k < w.heap.size → G k ≠ 0 → w'.heap[k]? = w.heap[k]?) : VarsAt w' vb G m := by
  obtain ⟨new, lab, sco, mrk, cm, mm, bv, sc, cb, bs, h1, h2, h3, h4, hF, h5, h6, h7⟩ := h
  exact ⟨new_keep new hb, lab, sco, mrk, cm, mm, bv, sc, cb, bs, (hb vb (lt_at h1) (by omega)).trans h1, h2, h3.keep (fun j hj e => hb j hj (by omega)) (fun _ _ _ => rfl), h4.move (hb mm h4.lt (by omega)), hF, h5, h6.keep (fun k hk e => hb k hk (by omega)) (fun _ _ e => e),
    fun b hb' => by
      obtain ⟨a1, a2, a3, a4, a5, a6⟩ := h7 b hb'
      exact ⟨a1, a2, (hb _ (lt_at a3) (by omega)).trans a3, (hb _ (lt_at a4) (by omega)).trans a4, a5, a6⟩⟩
theorem VarsAt.below {w w' : World} {vb : Nat} {G : Nat → Nat} {m : Vs} (h : VarsAt w vb G m) (hw : Below w.heap.size w w') : VarsAt w' vb G m := h.keep fun k hk _ => hw.block k hk
/-- What a call on variables leaves. -/
structure VWent (w w' : World) (vb : Nat) (G : Nat → Nat) (m' : Vs) : Prop where
  keeps : Keeps G w w'
  vars : ∃ G', VarsAt w' vb G' m' ∧ ∀ k, k < w.heap.size → (G' k = 0 ↔ G k = 0)
theorem VWent.after {w W w2 : World} {vb : Nat} {G : Nat → Nat} {m : Vs} (hW : Below w.heap.size w W) (h : VWent W w2 vb G m) : VWent w w2 vb G m := by
  obtain ⟨hk, G', h1, h2⟩ := h
  exact ⟨(Keeps.of_below hW).trans hk (fun _ _ e => e), G', h1, fun k hk => h2 k (Nat.lt_of_lt_of_le hk hW.size)⟩
theorem VWent.of_below {w w' : World} {vb : Nat} {G : Nat → Nat} {m : Vs} (h : VarsAt w vb G m) (hw : Below w.heap.size w w') : VWent w w' vb G m := ⟨Keeps.of_below hw, G, h.below hw, fun _ _ => Iff.rfl⟩
/-- The cells' part of variables: what stands when the cells alone have turned. -/
theorem VarsAt.celled {w : World} {vb : Nat} {G : Nat → Nat} {m : Vs} (h : VarsAt w vb G m) :
    ∃ cm mm bv sc cb, w.heap[vb]? = some (.cells #[.map (some cm), .int .i64 m.scope, .map (some mm), bv] 58 (0, 0)) ∧ CellsAt w G m.cells m.cnt cm sc cb ∧ MapF w markE mm m.cnt (markF m.marks) ∧ Full sc cb ∧
      ∀ (W w' : World) (G' : Nat → Nat) (C : Nat → Nat → Option Cl) (c : Nat) (sc' : Nat → Option Nat) (cb' : Nat → Nat → Option Nat), Below w.heap.size w W → m.cnt ≤ c → CellsAt w' G' C c cm sc' cb' → CWent W w' G G' → Full sc' cb' → VWent w w' vb G { m with cells := C, cnt := c } := by
  have hh := h
  obtain ⟨new, lab, sco, mrk, cm, mm, bv, sc, cb, bs, h1, h2, h3, h4, hF, h5, h6, h7⟩ := h
  refine ⟨cm, mm, bv, sc, cb, h1, h3, h4, hF, fun W w' G' C c sc' cb' hW hc hC hw hF' => ?_⟩
  have hw2 := CWent.after hW hw new
  have hst : ∀ j, j < w.heap.size → G j ≠ 2 → G j < 6 → w'.heap[j]? = w.heap[j]? := hw2.block
  refine ⟨⟨hw2.os, hw2.tape, hw2.output, hw2.size, fun k hk hz => hst k hk (by omega) (by omega)⟩, G', ⟨hw2.new, (hw2.lab vb (lt_at h1)).trans lab, sco, mrk, cm, mm, bv, sc', cb', bs, (hst vb (lt_at h1) (by omega) (by omega)).trans h1, (hw2.lab mm h4.lt).trans h2, hC, (h4.move (hst mm h4.lt (by omega) (by omega))).mono hc, hF', h5, h6.keep (fun k hk e => hst k hk (by omega) (by omega)) (fun k hk e => (hw2.lab k hk).trans e), fun b hb => ?_⟩, fun k hk => by rw [hw2.lab k hk]⟩
  obtain ⟨a1, a2, a3, a4, a5, a6⟩ := h7 b hb
  exact ⟨a1, a2, (hst _ (lt_at a3) (by omega) (by omega)).trans a3, (hst _ (lt_at a4) (by omega) (by omega)).trans a4, (hw2.lab _ (lt_at a3)).trans a5, (hw2.lab _ (lt_at a4)).trans a6⟩
theorem CellsAt.some_iff {w : World} {G : Nat → Nat} {C : Nat → Nat → Option Cl} {c cm : Nat} {sc : Nat → Option Nat} {cb : Nat → Nat → Option Nat} (h : CellsAt w G C c cm sc cb) (k n : Nat) : (cb k n).isSome = (C k n).isSome := by
  cases hb : cb k n with
  | none => rw [h.free k n hb]; rfl
  | some b =>
    obtain ⟨_, _, x, hx, _⟩ := h.cell k n b hb
    rw [hx]; rfl
theorem neqMc (w : World) (p : Option Nat) : (binOp .neq 54 (.map p) (.map none)).run Try.prog w = .ok (.bool p.isSome) w := by
  have h := Go.Proofs.run_equalIn_map_nil_sl w 9999 54 _ _ p Try.underlying54
  simp only [binOp]
  simp [show Op.equal 54 (.map p) (.map none) = Op.equalIn (9999 + 1) 54 (.map p) (.map none) from rfl, h]
theorem valid_core (vb cm : Nat) (w : World) (c0 : w.cell? ⟨vb, 0, none⟩ = some (.map (some cm))) :
    Calls Try.prog 40 #[hptr vb] w fun e w' => e = .returned (.bool true) ∧ w' = w := by
  have hq := neqMc w (some cm)
  go_enter Try.func40, Try.ntmps40
  go_wp2
  go_ret
  exact ⟨rfl, rfl⟩
theorem valid_nil (w : World) : Calls Try.prog 40 #[.pointer none] w fun e w' => e = .returned (.bool false) ∧ w' = w := by
  go_enter Try.func40, Try.ntmps40
  go_wp2
  go_ret
  exact ⟨rfl, rfl⟩
set_option maxRecDepth 100000 in
theorem check_nil (n : Int) (w : World) : Calls Try.prog 45 #[.pointer none, .int .i64 n] w fun e w' => e = .returned (.int .i64 1) ∧ w' = w := by
  go_enter Try.func45, Try.ntmps45
  go_wp2_with fail
  refine (valid_nil _).mono ?_
  rintro e w1 ⟨rfl, rfl⟩
  go_wp2
  go_ret
  exact ⟨rfl, rfl⟩
set_option maxRecDepth 100000 in
theorem check_ok (vb cm n : Nat) (w : World) (hn : n < 16384) (c0 : w.cell? ⟨vb, 0, none⟩ = some (.map (some cm))) :
    Calls Try.prog 45 #[hptr vb, .int .i64 n] w fun e w' => e = .returned (.int .i64 0) ∧ w' = w := by
  have hd : decide ((n : Int) < 0) = false := by simp
  have hd2 : decide ((16384 : Int) ≤ (n : Int)) = false := by rw [decide_eq_false_iff_not]; omega
  have hd3 : ¬ (16384 : Int) ≤ (n : Int) := by omega
  have cV := valid_core vb cm w c0
  clear hn
  go_enter Try.func45, Try.ntmps45
  go_wp2_with fail
  refine cV.mono ?_
  rintro e w1 ⟨rfl, rfl⟩
  go_wp2
  go_ret
  exact ⟨rfl, rfl⟩
set_option maxRecDepth 100000 in
theorem check_bad (vb cm : Nat) (n : Int) (w : World) (hn : n < 0 ∨ 16384 ≤ n) (c0 : w.cell? ⟨vb, 0, none⟩ = some (.map (some cm))) :
    Calls Try.prog 45 #[hptr vb, .int .i64 n] w fun e w' => e = .returned (.int .i64 8) ∧ w' = w := by
  have cV := valid_core vb cm w c0
  by_cases h : n < 0
  · have hd : decide (n < 0) = true := by simpa using h
    clear hn
    go_enter Try.func45, Try.ntmps45
    go_wp2_with fail
    refine cV.mono ?_
    rintro e w1 ⟨rfl, rfl⟩
    go_wp2
    go_ret
    exact ⟨rfl, rfl⟩
  · have hd : decide (n < 0) = false := by simpa using h
    have hd2 : (16384 : Int) ≤ n := by omega
    clear hn h
    go_enter Try.func45, Try.ntmps45
    go_wp2_with fail
    refine cV.mono ?_
    rintro e w1 ⟨rfl, rfl⟩
    go_wp2
    go_ret
    exact ⟨rfl, rfl⟩
theorem zeroMk (w : World) : (zeroValue 76).run Try.prog w = .ok (.int .u8 0) w := by kernel_rfl
theorem mark_look {w : World} {mm c n : Nat} {f : Nat → Nat} (h : MapF w markE mm c (markF f)) (hn : n < 16384) :
    (Instr.lookup 55 (.map (some mm)) (.int .i64 (n : Int)) false).run Try.prog w = .ok (.int .u8 (f n)) w := by
  rw [h.look mark_tell Try.underlying55 (zeroMk w) (zd := .lit (.int .i64 0)) (zp := []) rfl n (by omega), markF_get]
/-- Bit 2 of a mark: constant. Bit 1: special. -/
def hasC (v : Nat) : Bool := v == 2 || v == 3
def hasS (v : Nat) : Bool := v == 1 || v == 3
set_option maxRecDepth 100000 in
theorem marked_c (vb cm mm n v : Nat) (w : World) (hn : n < 16384) (c0 : w.cell? ⟨vb, 0, none⟩ = some (.map (some cm))) (c2 : w.cell? ⟨vb, 2, none⟩ = some (.map (some mm)))
    (l : (Instr.lookup 55 (.map (some mm)) (.int .i64 (n : Int)) false).run Try.prog w = .ok (.int .u8 (v : Int)) w) (hv : v ≤ 3) :
    Calls Try.prog 55 #[hptr vb, .int .i64 n, .int .u8 2] w fun e w' => e = .returned (.bool (hasC v)) ∧ w' = w := by
  have cK := check_ok vb cm n w hn c0
  have hc : v = 0 ∨ v = 1 ∨ v = 2 ∨ v = 3 := by omega
  clear hv c0
  rcases hc with rfl | rfl | rfl | rfl
  all_goals
    go_enter Try.func55, Try.ntmps55
    go_wp2_with fail
    refine cK.mono ?_
    rintro e w1 ⟨rfl, rfl⟩
    go_wp2
    go_ret
    exact ⟨rfl, rfl⟩
set_option maxRecDepth 100000 in
theorem marked_s (vb cm mm n v : Nat) (w : World) (hn : n < 16384) (c0 : w.cell? ⟨vb, 0, none⟩ = some (.map (some cm))) (c2 : w.cell? ⟨vb, 2, none⟩ = some (.map (some mm)))
    (l : (Instr.lookup 55 (.map (some mm)) (.int .i64 (n : Int)) false).run Try.prog w = .ok (.int .u8 (v : Int)) w) (hv : v ≤ 3) :
    Calls Try.prog 55 #[hptr vb, .int .i64 n, .int .u8 1] w fun e w' => e = .returned (.bool (hasS v)) ∧ w' = w := by
  have cK := check_ok vb cm n w hn c0
  have hc : v = 0 ∨ v = 1 ∨ v = 2 ∨ v = 3 := by omega
  clear hv c0
  rcases hc with rfl | rfl | rfl | rfl
  all_goals
    go_enter Try.func55, Try.ntmps55
    go_wp2_with fail
    refine cK.mono ?_
    rintro e w1 ⟨rfl, rfl⟩
    go_wp2
    go_ret
    exact ⟨rfl, rfl⟩
end Go.Proofs.Ytgkblfegjmeolaa
