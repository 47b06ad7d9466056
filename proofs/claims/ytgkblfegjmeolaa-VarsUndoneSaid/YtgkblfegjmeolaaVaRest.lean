/- A binding's function: what it recorded is put back, if its cell still exists. -/
import Derived.Test.YtgkblfegjmeolaaVaDel
namespace Go.Proofs.Ytgkblfegjmeolaa
open Go.RowKit Go.Lib
def Vs.rest (m : Vs) (b : Nat × Nat × Cl) : Vs := if (m.cells b.1 b.2.1).isSome then { m with cells := upd m.cells b.1 b.2.1 (some b.2.2) } else m
/-- The cells turned, the labels as they were: variables that stand. -/
theorem VarsAt.turned {w : World} {vb : Nat} {G : Nat → Nat} {m : Vs} (h : VarsAt w vb G m) :
    ∃ cm sc cb, w.cell? ⟨vb, 0, none⟩ = some (.map (some cm)) ∧ CellsAt w G m.cells m.cnt cm sc cb ∧
      ∀ (w' : World) (C : Nat → Nat → Option Cl), CellsAt w' G C m.cnt cm sc cb → CWent w w' G G → VarsAt w' vb G { m with cells := C } := by
  obtain ⟨new, lab, sco, mrk, cm, mm, bv, sc, cb, bs, h1, h2, h3, h4, hF, h5, h6, h7⟩ := h
  refine ⟨cm, sc, cb, cell_at h1, h3, fun w' C hC hw => ?_⟩
  have hst : ∀ j, j < w.heap.size → G j ≠ 2 → G j < 6 → w'.heap[j]? = w.heap[j]? := hw.block
  refine ⟨hw.new, lab, sco, mrk, cm, mm, bv, sc, cb, bs, (hst vb (lt_at h1) (by omega) (by omega)).trans h1, h2, hC, h4.move (hst mm h4.lt (by omega) (by omega)), hF, h5, h6.keep (fun k hk e => hst k hk (by omega) (by omega)) (fun _ _ e => e), fun b hb => ?_⟩
  obtain ⟨a1, a2, a3, a4, a5, a6⟩ := h7 b hb
  exact ⟨a1, a2, (hst _ (lt_at a3) (by omega) (by omega)).trans a3, (hst _ (lt_at a4) (by omega) (by omega)).trans a4, a5, a6⟩
theorem CWent.of_below {w w' : World} {G : Nat → Nat} (hn : ∀ j, w.heap.size ≤ j → G j = 0) (h : Below w.heap.size w w') : CWent w w' G G :=
  ⟨h.os, h.tape, h.output, h.size, fun j hj _ _ => h.block j hj, fun _ _ => rfl, fun j hj => hn j (by have := h.size; omega), fun j hj => .inl (hn j hj)⟩
set_option maxHeartbeats 1000000 in
set_option maxRecDepth 100000 in
theorem restore_any {w : World} {vb : Nat} {G : Nat → Nat} {m : Vs} (h : VarsAt w vb G m) {cm : Nat} (hc : w.cell? ⟨vb, 0, none⟩ = some (.map (some cm))) {b : Bd} (hb : b.Ok w G) :
    Calls Try.prog 62 #[.map (some cm), cag b.c, hptr b.p, hptr b.q] w fun e w' => e = .returned (.tuple #[]) ∧ VarsAt w' vb G (m.rest b.out) ∧ CWent w w' G G := by
  obtain ⟨cm', sc, cb, e1, hC, hfin⟩ := h.turned
  rw [hc] at e1
  obtain rfl : cm = cm' := by injection e1 with e1; injection e1 with e1; injection e1
  obtain ⟨bk, bn, bp, bq, _, _⟩ := hb
  have hbw : Below w.heap.size w (w.alloc (cobj b.c)) := (Below.refl _ _).alloc (Nat.le_refl _) _
  have a0 := alloc_at w (cobj b.c)
  have cH := has_any (hC.below hbw) b.k b.n bk bn
  have p0 : (w.alloc (cobj b.c)).cell? ⟨b.p, 0, none⟩ = some (.int .i64 b.k) := cell_at ((hbw.block _ (lt_at bp)).trans bp)
  have q0 : (w.alloc (cobj b.c)).cell? ⟨b.q, 0, none⟩ = some (.int .i64 b.n) := cell_at ((hbw.block _ (lt_at bq)).trans bq)
  have u0 : (w.alloc (cobj b.c)).cell? ⟨w.heap.size, 0, none⟩ = some (.int .i64 b.c.1.1) := cell_at a0
  have u1 : (w.alloc (cobj b.c)).cell? ⟨w.heap.size, 1, none⟩ = some (.int .i64 b.c.1.2) := cell_at a0
  have u2 : (w.alloc (cobj b.c)).cell? ⟨w.heap.size, 2, none⟩ = some (.bool b.c.2) := cell_at a0
  have hsom := hC.some_iff b.k b.n
  have hn0 : ∀ j, (w.alloc (cobj b.c)).heap.size ≤ j → G j = 0 := fun j hj => h.new j (by simp at hj; omega)
  cases hcb : cb b.k b.n with
  | none =>
    rw [hcb] at cH hsom
    have hr : m.rest b.out = m := by
      unfold Vs.rest Bd.out
      rw [← hsom]
      rfl
    rw [hr]
    have HF := Lib.hid (And.intro (h.below hbw) (CWent.of_below h.new hbw))
    have CH := Lib.hid cH
    clear h hc hC hfin bk bn bp bq hbw a0 cH hsom hn0 hcb hr
    go_enter Try.func62, Try.ntmps62
    go_wp2_with fail
    refine CH.out.mono ?_
    rintro e w1 ⟨rfl, rfl⟩
    go_wp2
    go_end0
    exact ⟨rfl, HF.out⟩
  | some g =>
    rw [hcb] at cH hsom
    have hr : m.rest b.out = { m with cells := upd m.cells b.k b.n (some b.c) } := by
      unfold Vs.rest Bd.out
      rw [if_pos (by rw [← hsom]; rfl)]
    rw [hr]
    have cS := store_old (hC.below hbw) hn0 b.k b.n bk b.c hcb
    have HF := Lib.hid (fun (w' : World) (h1 : CellsAt w' G (upd m.cells b.k b.n (some b.c)) m.cnt cm sc cb) (h2 : CWent (w.alloc (cobj b.c)) w' G G) => And.intro (hfin w' _ h1 (CWent.after hbw h2 h.new)) (CWent.after hbw h2 h.new))
    have CH := Lib.hid cH
    have CS := Lib.hid cS
    clear h hc hC hfin bk bn bp bq hbw a0 cH hsom hn0 hcb hr cS
    go_enter Try.func62, Try.ntmps62
    go_wp2_with fail
    refine CH.out.mono ?_
    rintro e w1 ⟨rfl, rfl⟩
    go_wp2_with fail
    refine CS.out.mono ?_
    rintro e w2 ⟨rfl, h1, h2⟩
    have HG := Lib.hid (HF.out _ h1 h2)
    clear h1 h2
    go_wp2
    go_end0
    exact ⟨rfl, HG.out⟩
end Go.Proofs.Ytgkblfegjmeolaa
