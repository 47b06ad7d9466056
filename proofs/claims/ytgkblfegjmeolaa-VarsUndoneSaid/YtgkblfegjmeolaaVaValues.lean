/- Values: of the cells, then of the bindings. -/
import Derived.Test.YtgkblfegjmeolaaVaVals
import Derived.Test.YtgkblfegjmeolaaVaUnb2
namespace Go.Proofs.Ytgkblfegjmeolaa
open Go.RowKit Go.Lib Go.Shelf
theorem VarsW.valid {w : World} {vb : Nat} {G : Nat → Nat} {m : Vs} (h : VarsW w vb G m) : Calls Try.prog 40 #[hptr vb] w fun e w' => e = .returned (.bool true) ∧ w' = w := by
  obtain ⟨cm, mm, bv, sc, cb, bs, h1, _⟩ := h.lies
  exact valid_core vb cm w (cell_at h1)
theorem VarsW.lt {w : World} {vb : Nat} {G : Nat → Nat} {m : Vs} (h : VarsW w vb G m) : vb < w.heap.size := by
  obtain ⟨cm, mm, bv, sc, cb, bs, h1, _⟩ := h.lies
  exact lt_at h1
theorem bcells_at : ∀ (l : List Bd) (i : Nat) (b : Bd), l[i]? = some b → ∀ j, j < 4 → (bcells l)[i * 4 + j]? = [Value.int .i64 b.c.1.1, .int .i64 b.c.1.2, .bool b.c.2, bfun b][j]?
  | [], i, b, h, _, _ => by simp at h
  | x :: l, 0, b, h, j, hj => by
    simp only [List.getElem?_cons_zero, Option.some.injEq] at h
    subst h
    show ([Value.int .i64 x.c.1.1, .int .i64 x.c.1.2, .bool x.c.2, bfun x] ++ bcells l)[0 * 4 + j]? = _
    rw [Nat.zero_mul, Nat.zero_add, List.getElem?_append_left (by simpa using hj)]
  | x :: l, i + 1, b, h, j, hj => by
    simp only [List.getElem?_cons_succ] at h
    show ([Value.int .i64 x.c.1.1, .int .i64 x.c.1.2, .bool x.c.2, bfun x] ++ bcells l)[(i + 1) * 4 + j]? = _
    rw [List.getElem?_append_right (by simp; omega)]
    have := bcells_at l i b h j hj
    rw [← this]
    congr 1
    simp
    omega
/-- The values that the bindings hold. -/
def addB (bs : List (Nat × Nat × Cl)) (l : List Wd) : List Wd := bs.foldl (fun l b => addC b.2.2 l) l
theorem addB_len (bs : List (Nat × Nat × Cl)) : ∀ l, (addB bs l).length ≤ l.length + bs.length := by
  induction bs with
  | nil => intro l; exact Nat.le_refl _
  | cons b bs ih =>
    intro l
    have h1 := ih (addC b.2.2 l)
    have h2 := addC_len b.2.2 l
    show (addB bs (addC b.2.2 l)).length ≤ l.length + (bs.length + 1)
    omega
theorem addB_step (bs : List Bd) (i : Nat) (b : Bd) (h : bs[i]? = some b) (l : List Wd) : addB ((bs.take (i + 1)).map Bd.out) l = addC b.c (addB ((bs.take i).map Bd.out) l) := by
  rw [List.take_add_one, h]
  unfold addB
  rw [List.map_append, List.foldl_append]
  rfl
set_option maxHeartbeats 2000000 in
set_option maxRecDepth 100000 in
theorem values_any {w : World} {vb : Nat} {G : Nat → Nat} {m : Vs} (h : VarsW w vb G m) (hk : ∀ k n, (m.cells k n).isSome = true → k ≤ 65536) (hc : m.cnt ≤ 400000) (hl : m.binds.length ≤ 2000) :
    Calls Try.prog 30 #[hptr vb] w fun e w' => ∃ v l, e = .returned v ∧ OwnL w' v (addB m.binds l) ∧ (∀ k, v.ownBlock = some k → w.heap.size ≤ k) ∧ Tr m.cells (fun _ _ => True) l ∧ Below w.heap.size w w' ∧ (addB m.binds l).length ≤ 400000 * 400000 + 2000 := by
  have cV := h.valid
  have hvl := h.lt
  obtain ⟨new, lab, sco, mrk, cm, mm, bv, sc, cb, bs, h1, h2, h3, h4, hF, h5, h6⟩ := h
  obtain ⟨a, cap, rfl⟩ := h6.slice
  have c0 : w.cell? ⟨vb, 0, none⟩ = some (.map (some cm)) := cell_at h1
  have c3 : w.cell? ⟨vb, 3, none⟩ = some (.slice a bs.length cap) := cell_at h1
  have cC := cvals_any h3 hF hk hc
  have hbl : bs.length ≤ 2000 := by rw [← h5, List.length_map] at hl; exact hl
  have hcells : ∀ (i : Nat) (b : Bd), bs[i]? = some b → ∃ g, a = some ⟨g, 0, none⟩ ∧ g < w.heap.size ∧ w.cell? ⟨g, i * 4, none⟩ = some (.int .i64 b.c.1.1) ∧ w.cell? ⟨g, i * 4 + 1, none⟩ = some (.int .i64 b.c.1.2) ∧ w.cell? ⟨g, i * 4 + 2, none⟩ = some (.bool b.c.2) ∧ w.cell? ⟨g, i * 4 + 3, none⟩ = some (bfun b) := by
    intro i b hb
    rcases h6.own.2 with ⟨_, hz⟩ | ⟨g, cap', cur, e1, _⟩
    · rw [List.eq_nil_of_length_eq_zero hz] at hb; simp at hb
    · cases e1
      have ha := bcells_at bs i b hb
      exact ⟨g, rfl, h6.lt g rfl, h6.cell (ha 0 (by decide)), h6.cell (ha 1 (by decide)), h6.cell (ha 2 (by decide)), h6.cell (ha 3 (by decide))⟩
  rw [← h5]
  have HH := Lib.hid hcells
  clear h1 h2 h3 h4 hF h5 h6 new lab sco mrk hk hc hl hcells
  go_enter Try.func30, Try.ntmps30
  go_wp2_with fail
  refine cV.mono ?_
  rintro e w1 ⟨rfl, rfl⟩
  go_wp2_with fail
  refine cC.mono ?_
  rintro e w0 ⟨v0, l0, rfl, ho, hn, htr, hb, hl0⟩
  have c3' : w0.cell? ⟨vb, 3, none⟩ = some (.slice a bs.length cap) := (hb.cell (p := ⟨vb, 3, none⟩) hvl).trans c3
  have HC := Lib.hid (And.intro ho (And.intro hn (And.intro htr (And.intro hb hl0))))
  clear ho hn htr hb hl0 cC cV c0
  go_wp2_with fail
  clear c3 c3'
  have hbI : (bs.length : Int) ≤ 2000 := by omega
  go_loopw [3, 19] (fun lv iv wr => ∃ (i : Nat), iv = .int .i64 i ∧ i ≤ bs.length ∧ Hid (OwnL wr lv (addB ((bs.take i).map Bd.out) l0) ∧ (∀ k, lv.ownBlock = some k → w1.heap.size ≤ k) ∧ Below w1.heap.size w1 wr)) (fun _ iv _ => bs.length - (RowKit.intOf iv).toNat)
  case atStart => exact ⟨0, rfl, Nat.zero_le _, Lib.hid ⟨HC.out.1, HC.out.2.1, HC.out.2.2.2.1⟩⟩
  case round =>
    obtain ⟨i, rfl, hi, HL⟩ := hrel
    by_cases hlt : (i : Int) < (bs.length : Int)
    · have hil : i < bs.length := by omega
      obtain ⟨b, hbi⟩ : ∃ b, bs[i]? = some b := ⟨_, List.getElem?_eq_getElem hil⟩
      obtain ⟨g, rfl, hg, k0, k1, k2, k3⟩ := HH.out i b hbi
      have q0 := (HL.out.2.2.cell (p := ⟨g, i * 4, none⟩) hg).trans k0
      have q1 := (HL.out.2.2.cell (p := ⟨g, i * 4 + 1, none⟩) hg).trans k1
      have q2 := (HL.out.2.2.cell (p := ⟨g, i * 4 + 2, none⟩) hg).trans k2
      have q3 := (HL.out.2.2.cell (p := ⟨g, i * 4 + 3, none⟩) hg).trans k3
      have HB := Lib.hid hbi
      clear k0 k1 k2 k3 hbi
      have hbb : Below wr.heap.size wr (wr.alloc (.cells #[.int .i64 b.c.1.1, .int .i64 b.c.1.2, .bool b.c.2, bfun b] 68)) := (Below.refl _ _).alloc (Nat.le_refl _) _
      have hlen : (addB ((bs.take i).map Bd.out) l0).length ≤ 1000000000000 := by
        have h1 := addB_len ((bs.take i).map Bd.out) l0
        have h2 := HC.out.2.2.2.2
        rw [List.length_map, List.length_take] at h1
        omega
      have cA := addto_any (HL.out.1.below hbb) b.c hlen
      have HB2 := Lib.hid hbb
      have hst := store_fun wr b (.int .i64 b.c.1.1) (.int .i64 b.c.1.2) (.bool b.c.2)
      clear hbb hlen
      go_wp2_with fail
      refine cA.mono ?_
      rintro e w3 ⟨lv', rfl, ho, hg3⟩
      obtain ⟨g1, g2, g3, g4⟩ := hg3.ahead HB2.out
      have HF := Lib.hid (show OwnL w3 lv' (addB ((bs.take (i + 1)).map Bd.out) l0) ∧ (∀ k, lv'.ownBlock = some k → w1.heap.size ≤ k) ∧ Below w1.heap.size w1 w3 from ⟨by rw [addB_step bs i b HB.out]; exact ho, fun k hk => (g2 k hk).elim (HL.out.2.1 k) (fun e => Nat.le_trans HL.out.2.2.size e), HL.out.2.2.trans (g4 _ HL.out.2.2.size HL.out.2.1)⟩)
      clear cA hst ho hg3 g1 g2 g3 g4 q0 q1 q2 q3
      go_wp2
      go_roundw
      case rel => exact ⟨i + 1, by go_num, by omega, HF⟩
      case measure => simp [RowKit.intOf]; omega
    · have hin : i = bs.length := by omega
      subst hin
      clear hi hlt
      have h0 := HL.out.1
      rw [List.take_length] at h0
      have HE := Lib.hid h0
      clear h0
      go_wp2
      go_ret
      have h9 := addB_len (bs.map Bd.out) l0
      rw [List.length_map] at h9
      exact ⟨_, l0, rfl, HE.out, HL.out.2.1, HC.out.2.2.1, HL.out.2.2, by have := HC.out.2.2.2.2; omega⟩
end Go.Proofs.Ytgkblfegjmeolaa
