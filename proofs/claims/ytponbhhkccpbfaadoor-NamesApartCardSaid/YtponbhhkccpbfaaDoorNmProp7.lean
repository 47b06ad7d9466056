/- Props of a table. -/
import Derived.Test.YtponbhhkccpbfaaDoorNmProp6
namespace Go.Proofs.YtponbhhkccpbfaaDoor
open Go.RowKit Go.Lib Go.Shelf
theorem Row.psat {w : World} {G : Nat → Nat} {L : Nat} {a : Option Addr} {c : Nat} {ps : List (Int × Wd)} (h : Row w G L 66 3 (.slice a ps.length c) ps.length (pcells ps)) (hn : 0 < ps.length) :
    ∃ b, a = some ⟨b, 0, none⟩ ∧ b < w.heap.size ∧ G b = L ∧ ∀ j u, (pcells ps)[j]? = some u → w.cell? ((⟨b, 0, none⟩ : Addr).add j) = some u := by
  obtain ⟨g, cap, cur, e, hG, hg, _⟩ := h.at hn
  cases e
  exact ⟨g, rfl, lt_at hg, hG, h.own.cells rfl⟩
theorem pcells_one (ps : List (Int × Wd)) : ∀ u ∈ pcells ps, u.oneCell' = true := by
  intro u hu
  simp only [pcells, List.mem_flatMap, List.mem_cons, List.not_mem_nil, or_false] at hu
  obtain ⟨p, _, h | h | h⟩ := hu <;> subst h <;> rfl
set_option maxHeartbeats 2000000 in
theorem allprops_any {w : World} {G : Nat → Nat} {L g o c : Nat} {a : Option Addr} {ps : List (Int × Wd)} (hrow : Row w G L 66 3 (.slice a ps.length c) ps.length (pcells ps)) (hn : 0 < ps.length) (hm : ps.length ≤ 20000) (c0 : w.cell? ⟨g, o + 3, none⟩ = some (.slice a ps.length c)) :
    Calls Tryd.prog 62 #[.pointer (some ⟨g, o, none⟩)] w fun e w' => ∃ b' cap, e = .returned (.slice (some ⟨b', 0, none⟩) ps.length cap) ∧ PAt w' b' ps ∧ b' < w'.heap.size ∧ Below w.heap.size w w' := by
  obtain ⟨b, rfl, hb, _, hcs⟩ := hrow.psat hn
  obtain ⟨i1, hj, hj0, hj1, hj2⟩ := info_parts info_prop
  have hb1 : 0 + ps.length ≤ maxLen := by simp only [maxLen]; omega
  have hb2 : (0 + ps.length) * 24 ≤ 140737488355328 := by omega
  have hfin : ∀ v' w', Row w' (fun k => if k < w.heap.size then 0 else 9) 9 66 3 v' (0 + ps.length) ([] ++ pcells ps) → w.grownBy w' none → ∃ b' cap, v' = .slice (some ⟨b', 0, none⟩) ps.length cap ∧ PAt w' b' ps ∧ b' < w'.heap.size ∧ Below w.heap.size w w' := by
    intro v' w' hr hgr
    rw [Nat.zero_add, List.nil_append] at hr
    obtain ⟨a', c', rfl⟩ := hr.slice
    obtain ⟨b', rfl, hb', hp⟩ := hr.pat hn
    exact ⟨b', c', rfl, hp, hb', ⟨hgr.os, hgr.tape, hgr.output, hgr.size, fun k hk => hgr.block k hk (by simp)⟩⟩
  have hl := pcells_length ps
  have HN := Lib.hid (And.intro hl (And.intro hcs (And.intro (pcells_one ps) (And.intro hb1 (And.intro hb2 hfin)))))
  clear hrow hcs hb1 hb2 hl hfin
  generalize ps.length = n at *
  go_enter Tryd.func62, Tryd.ntmps62
  go_wp2_with (at_builtin; refine wpList_append_row _ rfl _ _ 67 rfl 66 i1 (.agg #[.int .i64 0, .int .i64 0, .int .i64 0]) 3 24 Tryd.underlying67 hj hj0 hj1 hj2 rfl (by decide) (.slice none 0 0) 0 [] rfl (fun _ => 0) 9 (Row.nil _ _ _ _ _) ⟨b, 0, none⟩ n c (pcells ps) rfl HN.out.1 HN.out.2.1 HN.out.2.2.1 HN.out.2.2.2.1 HN.out.2.2.2.2.1 ?_; intro v1' w1 hrow1 hgr1 _; obtain ⟨b', cap, rfl, hq1, hq2, hq3⟩ := HN.out.2.2.2.2.2 v1' w1 hrow1 hgr1; have HQ := Lib.hid (And.intro hq1 (And.intro hq2 hq3)); clear hrow1 hgr1 hq1 hq2 hq3)
  go_ret
  first | exact ⟨b', cap, rfl, HQ.out.1, HQ.out.2.1, HQ.out.2.2⟩ | exact ⟨b', ⟨cap, rfl⟩, HQ.out.1, HQ.out.2.1, HQ.out.2.2⟩
set_option maxHeartbeats 1000000 in
theorem props_any {w : World} {tb : Nat} {G : Nat → Nat} {m : Tb} (h : TableAt w tb G m) {i : Nat} {y : Sy} (hy : m.syms[i]? = some y) (hn : 0 < y.ps.length) (hm : y.ps.length ≤ 20000) :
    Calls Tryd.prog 35 #[hptr tb, .int .i64 i] w fun e w' => ∃ b' cap, e = .returned (.slice (some ⟨b', 0, none⟩) y.ps.length cap) ∧ PAt w' b' y.ps ∧ b' < w'.heap.size ∧ Below w.heap.size w w' := by
  obtain ⟨g, c, a, cs, c0, hi, hg, hG, c3, f3, hrow, hfin⟩ := h.symProps hy
  have cV := h.valid (by omega)
  have cA := at_yes tb m.syms.length c g i _ hi c0
  have cP := allprops_any hrow hn hm c3
  have CV := Lib.hid cV
  have CA := Lib.hid cA
  have CP := Lib.hid cP
  clear h hy hi hG f3 hrow hfin cV cA cP c3 hg hn hm
  go_enter Tryd.func35, Tryd.ntmps35
  go_wp2_with fail
  refine CV.out.mono ?_
  rintro e w1 ⟨rfl, rfl⟩
  go_wp2_with fail
  refine CA.out.mono ?_
  rintro e w1 ⟨rfl, rfl⟩
  go_wp2_with fail
  refine CA.out.mono ?_
  rintro e w1 ⟨rfl, rfl⟩
  go_wp2_with fail
  refine CP.out.mono ?_
  rintro e w9 ⟨b', cap, rfl, h1, h2, h3⟩
  have HQ := Lib.hid (And.intro h1 (And.intro h2 h3))
  clear h1 h2 h3
  go_wp2
  go_ret
  first | exact ⟨b', cap, rfl, HQ.out.1, HQ.out.2.1, HQ.out.2.2⟩ | exact ⟨b', ⟨cap, rfl⟩, HQ.out.1, HQ.out.2.1, HQ.out.2.2⟩
end Go.Proofs.YtponbhhkccpbfaaDoor
