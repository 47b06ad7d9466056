/- SetProp at a name that is there. -/
import Derived.Test.YtponbhhkccpbfaaDoorNmSame
namespace Go.Proofs.YtponbhhkccpbfaaDoor
open Go.RowKit Go.Lib Go.Shelf
theorem pcells_set (ps : List (Int × Wd)) (k : Nat) (key : Int) (u v : Wd) (h : ps[k]? = some (key, u)) :
    ((pcells ps).set (k * 3 + 1) (.int .i64 v.1)).set (k * 3 + 1 + 1) (.int .i64 v.2) = pcells (ps.set k (key, v)) := by
  induction ps generalizing k with
  | nil => simp at h
  | cons q l ih =>
    cases k with
    | zero =>
      simp at h
      subst h
      rw [pcells_cons]
      simp [pcells]
    | succ k =>
      simp at h
      have := ih k h
      rw [pcells_cons, List.set_cons_succ, pcells_cons, ← this, show (k + 1) * 3 + 1 + 1 = (k * 3 + 1 + 1) + 3 by omega, show (k + 1) * 3 + 1 = (k * 3 + 1) + 3 by omega]
      rfl
set_option maxHeartbeats 4000000 in
set_option maxRecDepth 100000 in
theorem csetprop_old {w : World} {G : Nat → Nat} {L g o c b : Nat} {ps : List (Int × Wd)} (key : Int) (k : Nat) (u v : Wd) (hrow : Row w G L 66 3 (.slice (some ⟨b, 0, none⟩) ps.length c) ps.length (pcells ps)) (hn : ps.length ≤ 16384) (hs : Asc ps) (hk : ps[k]? = some (key, u))
    (c0 : w.cell? ⟨g, o + 3, none⟩ = some (.slice (some ⟨b, 0, none⟩) ps.length c)) (hg : g < w.heap.size) :
    Calls Tryd.prog 60 #[.pointer (some ⟨g, o, none⟩), .int .i64 key, wv v] w fun e w' => ∃ W, e = .returned (.tuple #[]) ∧ Below w.heap.size w W ∧
      w' = ((W.setCell ⟨b, k * 3 + 1, none⟩ (.int .i64 v.1)).setCell ⟨b, k * 3 + 1 + 1, none⟩ (.int .i64 v.2)).drew := by
  have hbw := (Below.refl w.heap.size w).alloc (Nat.le_refl _) (.cells #[.int .i64 v.1, .int .i64 v.2] 37)
  have hkl := (List.getElem?_eq_some_iff.1 hk).1
  obtain ⟨b1, e1, hb, hpat⟩ := hrow.pat (by omega)
  cases e1
  have cP := place_any ps key (some ⟨b, 0, none⟩) g o c (w.alloc (.cells #[.int .i64 v.1, .int .i64 v.2] 37)) (by omega) hs (fun h => ⟨b, rfl, Nat.lt_of_lt_of_le hb hbw.size, hpat.below hbw hb⟩) ((hbw.cell (p := ⟨g, _, none⟩) hg).trans c0)
  obtain ⟨m0, m1, m2⟩ := hpat k _ hk
  have hfz : ∀ j, w.frozen? ⟨b, j, none⟩ = false := by
    obtain ⟨g', cap', cur', e2, _, hg', _⟩ := hrow.at (by omega)
    cases e2
    exact fun j => frozen_at hg'
  have hkI : (k : Int) < (ps.length : Int) := by omega
  have CP := Lib.hid cP
  have HE := Lib.hid (fun (i : Nat) (f : Bool) (h : PPlace ps key i f) => h.yes hs hk)
  have HK := Lib.hid (And.intro hbw (And.intro (alloc_at w (.cells #[.int .i64 v.1, .int .i64 v.2] 37)) (And.intro c0 (And.intro m1 (And.intro m2 hfz)))))
  clear cP hs hk hbw hrow hpat m0 m1 m2 hfz hkl c0
  generalize ps.length = n at *
  go_enter Tryd.func60, Tryd.ntmps60
  go_wp2_with fail
  refine CP.out.mono ?_
  rintro e w' ⟨i, f, hp, rfl, hbe⟩
  obtain ⟨hin, rfl⟩ := HE.out _ _ hp
  have hin2 := hin.symm
  clear hin
  subst hin2
  have hB := HK.out.1.trans (hbe.mono HK.out.1.size)
  have c1 := (hB.cell (p := ⟨g, _, none⟩) hg).trans HK.out.2.2.1
  have v1 := (hB.cell (p := ⟨b, _, none⟩) hb).trans HK.out.2.2.2.1
  have v2 := (hB.cell (p := ⟨b, _, none⟩) hb).trans HK.out.2.2.2.2.1
  have f1 := (hB.frozen (p := ⟨b, k * 3 + 1, none⟩) hb).trans (HK.out.2.2.2.2.2 _)
  have f2 := (hB.frozen (p := ⟨b, k * 3 + 1 + 1, none⟩) hb).trans (HK.out.2.2.2.2.2 _)
  have k0 := (hbe.block _ (by simp)).trans HK.out.2.1
  have p0 : w'.cell? ⟨w.heap.size, 0, none⟩ = some (.int .i64 v.1) := cell_at k0
  have p1 : w'.cell? ⟨w.heap.size, 1, none⟩ = some (.int .i64 v.2) := cell_at k0
  have HB := Lib.hid hB
  clear hp hbe hB k0 CP
  go_wp2_with fail
  go_region
  go_end0
  exact ⟨w', rfl, HB.out, rfl⟩
end Go.Proofs.YtponbhhkccpbfaaDoor
