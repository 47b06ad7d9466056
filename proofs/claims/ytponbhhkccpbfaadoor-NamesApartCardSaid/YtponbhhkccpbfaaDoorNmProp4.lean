/- setProp of a cell: a name behind all others. -/
import Derived.Test.YtponbhhkccpbfaaDoorNmProp3
namespace Go.Proofs.YtponbhhkccpbfaaDoor
open Go.RowKit Go.Lib Go.Shelf
set_option maxHeartbeats 4000000 in
set_option maxRecDepth 100000 in
theorem csetprop_new {w : World} {G : Nat → Nat} {L g o c : Nat} {a : Option Addr} {ps : List (Int × Wd)} (key : Int) (v : Wd) (hrow : Row w G L 66 3 (.slice a ps.length c) ps.length (pcells ps)) (hn : ps.length ≤ 16384) (hs : Asc ps) (hk : ∀ p ∈ ps, p.1 < key)
    (c0 : w.cell? ⟨g, o + 3, none⟩ = some (.slice a ps.length c)) (f0 : w.frozen? ⟨g, o + 3, none⟩ = false) (hg : g < w.heap.size) (hG : G g ≠ L) :
    Calls Tryd.prog 60 #[.pointer (some ⟨g, o, none⟩), .int .i64 key, wv v] w fun e w' => ∃ W w1 b' cap, e = .returned (.tuple #[]) ∧ Below w.heap.size w W ∧ g ≠ b' ∧ Row w1 (fun k => if k < W.heap.size then G k else L) L 66 3 (.slice (some ⟨b', 0, none⟩) (ps.length + 1) cap) (ps.length + 1) (pcells ps ++ [.int .i64 key, .int .i64 0, .int .i64 0]) ∧ W.grownBy w1 (Value.slice a ps.length c).ownBlock ∧
      w' = (((w1.setCell ⟨g, o + 3, none⟩ (.slice (some ⟨b', 0, none⟩) (ps.length + 1) cap)).setCell ⟨b', ps.length * 3 + 1, none⟩ (.int .i64 v.1)).setCell ⟨b', ps.length * 3 + 1 + 1, none⟩ (.int .i64 v.2)).drew := by
  have hbw := (Below.refl w.heap.size w).alloc (Nat.le_refl _) (.cells #[.int .i64 v.1, .int .i64 v.2] 37)
  have cP := place_any ps key a g o c (w.alloc (.cells #[.int .i64 v.1, .int .i64 v.2] 37)) (by omega) hs (fun h => by
    obtain ⟨b, e, hb, hp⟩ := hrow.pat h
    exact ⟨b, e, Nat.lt_of_lt_of_le hb hbw.size, hp.below hbw hb⟩) ((hbw.cell (p := ⟨g, _, none⟩) hg).trans c0)
  have CP := Lib.hid cP
  have HPL := Lib.hid (pcells_length ps)
  have HE := Lib.hid (fun (i : Nat) (f : Bool) (h : PPlace ps key i f) => h.end hk)
  have HK := Lib.hid (And.intro hk (And.intro hbw (And.intro (alloc_at w (.cells #[.int .i64 v.1, .int .i64 v.2] 37)) (And.intro c0 (And.intro f0 (And.intro hrow hG))))))
  clear cP hs c0 hk hbw f0 hrow hG
  generalize ps.length = n at *
  go_enter Tryd.func60, Tryd.ntmps60
  go_wp2_with fail
  refine CP.out.mono ?_
  rintro e w' ⟨i, f, hp, rfl, hbe⟩
  obtain ⟨hin, rfl⟩ := HE.out _ _ hp
  have hin2 := hin.symm
  clear hin
  subst hin2
  have hB := HK.out.2.1.trans (hbe.mono HK.out.2.1.size)
  have c1 := (hB.cell (p := ⟨g, _, none⟩) hg).trans HK.out.2.2.2.1
  have f1 := (hB.frozen (p := ⟨g, _, none⟩) hg).trans HK.out.2.2.2.2.1
  have HB := Lib.hid hB
  have hbe0 := hbe
  clear hp hbe hB
  have k0 := (hbe0.block _ (by simp)).trans HK.out.2.2.1
  have hrow := HK.out.2.2.2.2.2.1
  have hbl : Below w'.heap.size w' (w'.alloc (.cells #[.int .i64 key, .int .i64 0, .int .i64 0] 66)) := (Below.refl _ _).alloc (Nat.le_refl _) _
  have hW : Below w.heap.size w (w'.alloc (.cells #[.int .i64 key, .int .i64 0, .int .i64 0] 66)) := HB.out.trans (hbl.mono HB.out.size)
  have hrow2 : Row (w'.alloc (.cells #[.int .i64 key, .int .i64 0, .int .i64 0] 66)) G L 66 3 (.slice a n c) n (pcells ps) := hrow.keep (fun k hk _ => hW.block k hk) (fun _ _ e => e)
  have hnb := alloc_at w' (.cells #[.int .i64 key, .int .i64 0, .int .i64 0] 66)
  have cI := insert_end hrow2 (by omega) w'.heap.size [.int .i64 key, .int .i64 0, .int .i64 0] rfl (fun j u hu => by
    have e2 : (⟨w'.heap.size, 0, none⟩ : Addr).add j = ⟨w'.heap.size, j, none⟩ := by by_cases hj : j = 0 <;> simp [Addr.add, hj]
    rw [e2, cell_at hnb, ← Array.getElem?_toList]
    exact hu) (by simp [Value.oneCell'])
  have hpw : w.heap.size < w'.heap.size := lt_at k0
  have CI := Lib.hid (And.intro cI (And.intro hW (And.intro hrow (And.intro ((hbl.block _ hpw).trans k0) hpw))))
  clear k0 hrow hbl hW hrow2 hnb cI hbe0 hpw
  go_wp2_with fail
  refine CI.out.1.mono ?_
  rintro e w1 ⟨v', rfl, hr1, hgr1⟩
  obtain ⟨b', cap, cur, rfl, hGb, hgb, hle, hmx, hcs, htk⟩ := hr1.at (by omega)
  have hWl := CI.out.2.1.size
  have hgne : g ≠ b' := by
    intro e2
    rw [← e2, if_pos (by omega)] at hGb
    exact HK.out.2.2.2.2.2.2 hGb
  have hown : ∀ k, (Value.slice a n c).ownBlock = some k → k < w.heap.size ∧ k ≠ g := fun k hk => ⟨CI.out.2.2.1.lt k hk, fun e2 => by have := CI.out.2.2.1.lab k hk; rw [e2] at this; exact HK.out.2.2.2.2.2.2 this⟩
  have hbg := hgr1.block g (by omega) (fun e2 => (hown g e2.symm).2 rfl)
  have c2 := (World.cell?_of_block (a := ⟨g, o + 3, none⟩) (hbg.trans (CI.out.2.1.block g hg))).trans HK.out.2.2.2.1
  have f2 := (World.frozen?_of_block (a := ⟨g, o + 3, none⟩) (hbg.trans (CI.out.2.1.block g hg))).trans HK.out.2.2.2.2.1
  have kp := (hgr1.block w.heap.size (by have := CI.out.2.2.2.2; simp; omega) (fun e2 => by have := (hown _ e2.symm).1; omega)).trans CI.out.2.2.2.1
  have p0 : w1.cell? ⟨w.heap.size, 0, none⟩ = some (.int .i64 v.1) := cell_at kp
  have p1 : w1.cell? ⟨w.heap.size, 1, none⟩ = some (.int .i64 v.2) := cell_at kp
  have hpl := HPL.out
  have n1 := hr1.cell (i := n * 3 + 1) (u := .int .i64 0) (by rw [List.getElem?_append_right (by omega)]; rw [show n * 3 + 1 - (pcells ps).length = 1 by omega]; rfl)
  have n2 := hr1.cell (i := n * 3 + 2) (u := .int .i64 0) (by rw [List.getElem?_append_right (by omega)]; rw [show n * 3 + 2 - (pcells ps).length = 2 by omega]; rfl)
  have g1 : w1.frozen? ⟨b', n * 3 + 1, none⟩ = false := frozen_at hgb
  have g2 : w1.frozen? ⟨b', n * 3 + 2, none⟩ = false := frozen_at hgb
  have HR := Lib.hid (And.intro hr1 (And.intro hgr1 (And.intro CI.out.2.1 hgne)))
  have hwg : w.heap.size ≠ g := by omega
  have hb'g : b' ≠ g := fun h => hgne h.symm
  have q0 := (World.cell?_setCell_far w1 ⟨g, o + 3, none⟩ ⟨w.heap.size, 0, none⟩ (.slice (some ⟨b', 0, none⟩) (n + 1) cap) (fun h => hwg h.symm)).trans p0
  have q1 := (World.cell?_setCell_far w1 ⟨g, o + 3, none⟩ ⟨w.heap.size, 1, none⟩ (.slice (some ⟨b', 0, none⟩) (n + 1) cap) (fun h => hwg h.symm)).trans p1
  have hnI : (n : Int) < (n : Int) + 1 := by omega
  clear hr1 hgr1 hGb hgb hle hmx hcs htk hWl hown hbg kp hpl CI HK c1 f1
  have z1 := (World.cell?_setCell_far w1 ⟨g, o + 3, none⟩ ⟨b', n * 3 + 1, none⟩ (.slice (some ⟨b', 0, none⟩) (n + 1) cap) hgne).trans n1
  have z2 := (World.cell?_setCell_far w1 ⟨g, o + 3, none⟩ ⟨b', n * 3 + 2, none⟩ (.slice (some ⟨b', 0, none⟩) (n + 1) cap) hgne).trans n2
  go_wp2_with fail
  have z0 : (w1.setCell ⟨g, o + 3, none⟩ (.slice (some ⟨b', 0, none⟩) (n + 1) cap)).cell? ⟨g, o + 3, none⟩ = some (.slice (some ⟨b', 0, none⟩) (n + 1) cap) := World.cell?_setCell_same' w1 _ _ (by rw [c2]; rfl)
  go_region
  go_end0
  exact ⟨_, w1, b', cap, rfl, HR.out.2.2.1, HR.out.2.2.2, HR.out.1, HR.out.2.1, rfl⟩
end Go.Proofs.YtponbhhkccpbfaaDoor
