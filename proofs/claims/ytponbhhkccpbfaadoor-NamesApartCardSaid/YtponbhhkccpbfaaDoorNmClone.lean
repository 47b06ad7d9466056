/- A copy of a symbol's properties, and of its cell. -/
import Derived.Test.YtponbhhkccpbfaaDoorNmProp7
import Derived.Laws.AppendOwnNone
import Derived.Deep.RegionHeld3
namespace Go.Proofs.YtponbhhkccpbfaaDoor
open Go.RowKit Go.Lib Go.Shelf
/-- A new row of properties, behind w. -/
def PNew (w w' : World) (L : Nat) (v : Value) (ps : List (Int × Wd)) : Prop :=
  Below w.heap.size w w' ∧ ∃ Gn : Nat → Nat, (∀ j, Gn j ≠ 0 → w.heap.size ≤ j ∧ j < w'.heap.size) ∧ Row w' Gn L 66 3 v ps.length (pcells ps)
theorem PNew.of_row {w w' : World} {L n : Nat} {v : Value} {ps : List (Int × Wd)} (hn : ps.length = n) (hr : Row w' (fun k => if k < w.heap.size then 0 else L) L 66 3 v (0 + n) ([] ++ pcells ps)) (hL : 0 < L) (hb : Below w.heap.size w w') : PNew w w' L v ps := by
  subst hn
  rw [Nat.zero_add, List.nil_append] at hr
  refine ⟨hb, fun j => if w.heap.size ≤ j ∧ j < w'.heap.size then L else 0, fun j hj => ?_, hr.own, fun k hk => ?_⟩
  · by_cases e : w.heap.size ≤ j ∧ j < w'.heap.size
    · exact e
    · simp only [if_neg e] at hj; exact absurd rfl hj
  · have h1 := hr.lab k hk
    have h2 := hr.lt k hk
    have h3 : w.heap.size ≤ k := by
      rcases Nat.lt_or_ge k w.heap.size with h | h
      · simp only [if_pos h] at h1; omega
      · exact h
    exact if_pos ⟨h3, h2⟩
set_option maxHeartbeats 2000000 in
theorem allprops_row {w : World} {G : Nat → Nat} {L g o c : Nat} {a : Option Addr} {ps : List (Int × Wd)} (hrow : Row w G L 66 3 (.slice a ps.length c) ps.length (pcells ps)) (hm : ps.length ≤ 20000) (c0 : w.cell? ⟨g, o + 3, none⟩ = some (.slice a ps.length c)) (L2 : Nat) (hL2 : 0 < L2) :
    Calls Tryd.prog 62 #[.pointer (some ⟨g, o, none⟩)] w fun e w' => ∃ v, e = .returned v ∧ PNew w w' L2 v ps := by
  rcases hrow.own.2 with ⟨e1, e2⟩ | ⟨b, cap, cur, e1, _⟩
  · obtain rfl : ps = [] := List.eq_nil_of_length_eq_zero e2
    cases e1
    obtain ⟨i1, hj, hj0, hj1, hj2⟩ := info_parts info_prop
    have hfin : PNew w w L2 (.slice none 0 0) [] := ⟨Below.refl _ _, fun _ => 0, fun j hj => absurd rfl hj, Row.nil _ _ _ _ _⟩
    have HF := Lib.hid hfin
    clear hrow hfin
    go_enter Tryd.func62, Tryd.ntmps62
    go_wp2_with (at_builtin; refine wpList_append_own_none rfl _ _ 67 rfl 0 66 i1 3 Tryd.underlying67 hj _ 0 [] rfl (World.ownsRow_nil _ _ _ _) rfl ?_)
    go_ret
    exact ⟨_, rfl, HF.out⟩
  · cases e1
    have hcs := hrow.own.cells (g := b) rfl
    obtain ⟨i1, hj, hj0, hj1, hj2⟩ := info_parts info_prop
    have hb1 : 0 + ps.length ≤ maxLen := by simp only [maxLen]; omega
    have hb2 : (0 + ps.length) * 24 ≤ 140737488355328 := by omega
    have hfin : ∀ v' w', Row w' (fun k => if k < w.heap.size then 0 else L2) L2 66 3 v' (0 + ps.length) ([] ++ pcells ps) → w.grownBy w' none → PNew w w' L2 v' ps := fun v' w' hr hgr =>
      PNew.of_row rfl hr hL2 ⟨hgr.os, hgr.tape, hgr.output, hgr.size, fun k hk => hgr.block k hk (by simp)⟩
    have hl := pcells_length ps
    have HN := Lib.hid (And.intro hl (And.intro hcs (And.intro (pcells_one ps) (And.intro hb1 (And.intro hb2 hfin)))))
    clear hrow hcs hb1 hb2 hl hfin hm
    generalize ps.length = n at *
    go_enter Tryd.func62, Tryd.ntmps62
    go_wp2_with (at_builtin; refine wpList_append_row _ rfl _ _ 67 rfl 66 i1 (.agg #[.int .i64 0, .int .i64 0, .int .i64 0]) 3 24 Tryd.underlying67 hj hj0 hj1 hj2 rfl (by decide) (.slice none 0 0) 0 [] rfl (fun _ => 0) L2 (Row.nil _ _ _ _ _) ⟨b, 0, none⟩ n _ (pcells ps) rfl HN.out.1 HN.out.2.1 HN.out.2.2.1 HN.out.2.2.2.1 HN.out.2.2.2.2.1 ?_; intro v1' w1 hrow1 hgr1 _; have HQ := Lib.hid (HN.out.2.2.2.2.2 v1' w1 hrow1 hgr1); clear hrow1 hgr1)
    go_ret
    exact ⟨_, rfl, HQ.out⟩
theorem PNew.slice {w w' : World} {L : Nat} {v : Value} {ps : List (Int × Wd)} (h : PNew w w' L v ps) : ∃ a c, v = .slice a ps.length c := by
  obtain ⟨_, _, _, h3⟩ := h
  exact h3.slice
abbrev kput (X : World) (b : Nat) (f : Wd) (has : Bool) (v : Value) : World := (((X.setCell ⟨b, 0, none⟩ (.int .i64 f.1)).setCell ⟨b, 0 + 1, none⟩ (.int .i64 f.2)).setCell ⟨b, 0 + 2, none⟩ (.bool has)).setCell ⟨b, 0 + 3, none⟩ v
theorem kput_off {X : World} {b j : Nat} {f : Wd} {has : Bool} {v : Value} (h : j ≠ b) : (kput X b f has v).heap[j]? = X.heap[j]? := by
  unfold kput
  rw [setCell_off _ h, setCell_off _ h, setCell_off _ h, setCell_off _ h]
theorem kput_cell {X : World} {b j o : Nat} {f : Wd} {has : Bool} {v u : Value} (h : j ≠ b) (hc : X.cell? ⟨j, o, none⟩ = some u) : (kput X b f has v).cell? ⟨j, o, none⟩ = some u := by
  unfold World.cell? at hc ⊢
  rw [kput_off h]
  exact hc
theorem kput_size (X : World) (b : Nat) (f : Wd) (has : Bool) (v : Value) : (kput X b f has v).heap.size = X.heap.size := by simp [kput, World.setCell]
theorem PNew.kput {w X wq : World} {L b : Nat} {f : Wd} {has : Bool} {v : Value} {ps : List (Int × Wd)} (h : PNew X wq L v ps) (hX : Below w.heap.size w X) (hb : w.heap.size ≤ b) (hbX : b < X.heap.size) (hL : 0 < L) : PNew w (kput wq b f has v) L v ps := by
  obtain ⟨h1, Gn, h2, h3⟩ := h
  have hs := hX.size
  have hz := kput_size wq b f has v
  refine ⟨((((hX.trans (h1.mono hs)).setCell hb _).setCell hb _).setCell hb _).setCell hb _, Gn, fun j hj => ?_, h3.keep (fun j hj e => kput_off ?_) (fun _ _ e => e)⟩
  · have := h2 j hj; omega
  · intro e2
    have := (h2 j (by omega)).1
    omega
set_option maxHeartbeats 2000000 in
/-- clone: the same cell with a new row. -/
theorem cellclone_any {w : World} {G : Nat → Nat} {L g o c : Nat} {a : Option Addr} {f : Wd} {has : Bool} {ps : List (Int × Wd)} (hrow : Row w G L 66 3 (.slice a ps.length c) ps.length (pcells ps)) (hm : ps.length ≤ 20000)
    (c0 : w.cell? ⟨g, o, none⟩ = some (.int .i64 f.1)) (c1 : w.cell? ⟨g, o + 1, none⟩ = some (.int .i64 f.2)) (c2 : w.cell? ⟨g, o + 2, none⟩ = some (.bool has)) (c3 : w.cell? ⟨g, o + 3, none⟩ = some (.slice a ps.length c)) (L2 : Nat) (hL2 : 0 < L2) :
    Calls Tryd.prog 46 #[.pointer (some ⟨g, o, none⟩)] w fun e w' => ∃ v, e = .returned (.agg #[.int .i64 f.1, .int .i64 f.2, .bool has, v]) ∧ PNew w w' L2 v ps := by
  have hg : g < w.heap.size := World.block_lt_of_cell? w ⟨g, o, none⟩ c0
  have hbw : Below w.heap.size w (w.alloc (.cells #[.int .i64 0, .int .i64 0, .bool false, .slice none 0 0] 78)) := (Below.refl _ _).alloc (Nat.le_refl _) _
  have a0 := alloc_at w (.cells #[.int .i64 0, .int .i64 0, .bool false, .slice none 0 0] 78)
  go_enter Tryd.func46, Tryd.ntmps46
  go_wp2_with fail
  generalize w.alloc (.cells #[.int .i64 0, .int .i64 0, .bool false, .slice none 0 0] 78) = wb at *
  have hrb := lt_at a0
  have hE : ∀ X, Below wb.heap.size wb X → X.cell? ⟨g, o, none⟩ = some (.int .i64 f.1) ∧ X.cell? ⟨g, o + 1, none⟩ = some (.int .i64 f.2) ∧ X.cell? ⟨g, o + 2, none⟩ = some (.bool has) := fun X hX => by
    have hq := hbw.trans (hX.mono hbw.size)
    exact ⟨(hq.cell (p := ⟨g, o, none⟩) hg).trans c0, (hq.cell (p := ⟨g, o + 1, none⟩) hg).trans c1, (hq.cell (p := ⟨g, o + 2, none⟩) hg).trans c2⟩
  have hC : ∀ X, Below wb.heap.size wb X → Calls Tryd.prog 62 #[.pointer (some ⟨g, o, none⟩)] X fun e w' => ∃ v, e = .returned v ∧ PNew X w' L2 v ps := fun X hX => by
    have hq := hbw.trans (hX.mono hbw.size)
    exact allprops_row (hrow.keep (fun k hk _ => hq.block k hk) (fun _ _ e => e)) hm ((hq.cell (p := ⟨g, o + 3, none⟩) hg).trans c3) L2 hL2
  have hO : ∀ X, Below wb.heap.size wb X → X.cell? ⟨w.heap.size, 0, none⟩ = some (.int .i64 0) ∧ X.cell? ⟨w.heap.size, 1, none⟩ = some (.int .i64 0) ∧ X.cell? ⟨w.heap.size, 2, none⟩ = some (.bool false) ∧ X.cell? ⟨w.heap.size, 3, none⟩ = some (.slice none 0 0) ∧
      X.frozen? ⟨w.heap.size, 0, none⟩ = false ∧ X.frozen? ⟨w.heap.size, 1, none⟩ = false ∧ X.frozen? ⟨w.heap.size, 2, none⟩ = false ∧ X.frozen? ⟨w.heap.size, 3, none⟩ = false ∧ X.heap[w.heap.size]? = some (.cells #[.int .i64 0, .int .i64 0, .bool false, .slice none 0 0] 78 (0, 0)) := fun X hX => by
    have hq := (hX.block _ hrb).trans a0
    exact ⟨(cell_at hq).trans rfl, (cell_at hq).trans rfl, (cell_at hq).trans rfl, (cell_at hq).trans rfl, frozen_at hq, frozen_at hq, frozen_at hq, frozen_at hq, hq⟩
  have HE := Lib.hid hE
  have HC := Lib.hid hC
  have HO := Lib.hid hO
  have HB := Lib.hid (And.intro hbw (And.intro hrb (show g ≠ w.heap.size by omega)))
  clear hE hC hO hbw a0 hrb hrow hm c0 c1 c2 c3 hg
  have HK := Lib.hid (show Below wb.heap.size wb wb.drew from (Below.refl _ _).drew)
  go_region_held3 (fun X => X.cell? ⟨g, o, none⟩ = some (.int .i64 f.1) ∧ X.cell? ⟨g, o + 1, none⟩ = some (.int .i64 f.2) ∧ X.cell? ⟨g, o + 2, none⟩ = some (.bool has))
    (first | with_reducible exact HE.out _ HK.out | (obtain ⟨y0, y1, y2⟩ := HE.out _ HK.out; exact ⟨kput_cell HB.out.2.2 y0, kput_cell HB.out.2.2 y1, kput_cell HB.out.2.2 y2⟩))
    (first
      | (go_at_call 62; (with_reducible refine (HC.out _ HK.out).mono ?_); rintro e wq ⟨v, rfl, hp⟩; obtain ⟨a2, cp2, rfl⟩ := hp.slice; have HP := Lib.hid (And.intro hp HK.out); have HK2 := Lib.hid (HK.out.trans (hp.1.mono HK.out.size)); clear HK hp; have HK := HK2; clear HK2; obtain ⟨z0, z1, z2, z3, f0, f1, f2, f3, hq⟩ := HO.out _ HK.out; have HQ := Lib.hid hq; clear hq))
  have h4 := setCell_at (i := 3) (setCell_at (i := 2) (setCell_at (i := 1) (setCell_at (i := 0) HQ.out (.int .i64 f.1)) (.int .i64 f.2)) (.bool has)) (.slice a2 ps.length cp2)
  have d0 := (cell_at (i := 0) h4).trans (show _ = some (.int .i64 f.1) by simp)
  have d1 := (cell_at (i := 1) h4).trans (show _ = some (.int .i64 f.2) by simp)
  have d2 := (cell_at (i := 2) h4).trans (show _ = some (.bool has) by simp)
  have d3 := (cell_at (i := 3) h4).trans (show _ = some (.slice a2 ps.length cp2) by simp)
  have HF := Lib.hid (HP.out.1.kput (f := f) (has := has) (HB.out.1.trans (HP.out.2.mono HB.out.1.size)) (Nat.le_refl _) (Nat.lt_of_lt_of_le HB.out.2.1 HP.out.2.size) hL2)
  clear h4 z0 z1 z2 z3 f0 f1 f2 f3
  go_wp2
  refine bodyPost_ret (v := .agg #[.int .i64 f.1, .int .i64 f.2, .bool has, .slice a2 ps.length cp2]) ?_ rfl ⟨_, rfl, HF.out⟩
  simp [results, Tryd.results46, go_sem, d0, d1, d2, d3]
end Go.Proofs.YtponbhhkccpbfaaDoor
