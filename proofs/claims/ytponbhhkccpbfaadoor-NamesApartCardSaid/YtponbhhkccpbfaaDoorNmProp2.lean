/- The property with a name: Prop. -/
import Derived.Test.YtponbhhkccpbfaaDoorNmProp
namespace Go.Proofs.YtponbhhkccpbfaaDoor
open Go.RowKit Go.Lib Go.Shelf
/-- What place says where a property is, and where none is. -/
theorem PPlace.yes {ps : List (Int × Wd)} {key : Int} {i : Nat} {f : Bool} (h : PPlace ps key i f) (hs : Asc ps) {k : Nat} {v : Wd} (hk : ps[k]? = some (key, v)) : i = k ∧ f = true := by
  have h1 : ¬ k < i := fun hlt => by have := h.lo k _ hk hlt; simp at this
  have h2 : ¬ i < k := fun hlt => by
    obtain ⟨q, hq⟩ : ∃ q, ps[i]? = some q := ⟨_, List.getElem?_eq_getElem (by have := (List.getElem?_eq_some_iff.1 hk).1; omega)⟩
    have h3 := h.hi i q hq (Nat.le_refl _)
    have h4 := hs i k q _ hq hk hlt
    simp at h4
    omega
  obtain rfl : i = k := by omega
  exact ⟨rfl, h.found.2 ⟨_, hk, rfl⟩⟩
theorem PPlace.no {ps : List (Int × Wd)} {key : Int} {i : Nat} {f : Bool} (h : PPlace ps key i f) (hk : ∀ p ∈ ps, p.1 ≠ key) : f = false := by
  cases f with
  | false => rfl
  | true =>
    obtain ⟨p, hp, he⟩ := h.found.1 rfl
    exact absurd he (hk p (List.mem_of_getElem? hp))
set_option maxHeartbeats 1000000 in
theorem cprop_no (ps : List (Int × Wd)) (key : Int) (a : Option Addr) (g o c : Nat) (w : World) (hg : g < w.heap.size) (hn : ps.length ≤ 20000) (hs : Asc ps) (ha : 0 < ps.length → ∃ b, a = some ⟨b, 0, none⟩ ∧ b < w.heap.size ∧ PAt w b ps) (c0 : w.cell? ⟨g, o + 3, none⟩ = some (.slice a ps.length c)) (hk : ∀ p ∈ ps, p.1 ≠ key) :
    Calls Tryd.prog 61 #[.pointer (some ⟨g, o, none⟩), .int .i64 key] w fun e w' => e = .returned (.tuple #[wv (0, 0), .bool false]) ∧ Below w.heap.size w w' := by
  have hbw := (Below.refl w.heap.size w).alloc (Nat.le_refl _) (.cells #[.int .i64 0, .int .i64 0] 37)
  have cP := place_any ps key a g o c (w.alloc (.cells #[.int .i64 0, .int .i64 0] 37)) hn hs (fun h => by
    obtain ⟨b, e, hb, hp⟩ := ha h
    exact ⟨b, e, Nat.lt_of_lt_of_le hb hbw.size, hp.below hbw hb⟩) ((hbw.cell (p := ⟨g, _, none⟩) hg).trans c0)
  have CP := Lib.hid cP
  have HK := Lib.hid (And.intro hk (And.intro hbw (alloc_at w (.cells #[.int .i64 0, .int .i64 0] 37))))
  clear cP hn hs ha c0 hk hbw
  go_enter Tryd.func61, Tryd.ntmps61
  go_wp2_with fail
  refine CP.out.mono ?_
  rintro e w' ⟨i, f, hp, rfl, hb⟩
  obtain rfl := hp.no HK.out.1
  have k0 := (hb.block _ (by simp)).trans HK.out.2.2
  have d0 : w'.cell? ⟨w.heap.size, 0, none⟩ = some (.int .i64 0) := cell_at k0
  have d1 : w'.cell? ⟨w.heap.size, 1, none⟩ = some (.int .i64 0) := cell_at k0
  have e0 : w'.frozen? ⟨w.heap.size, 0, none⟩ = false := frozen_at k0
  have e1 : w'.frozen? ⟨w.heap.size, 1, none⟩ = false := frozen_at k0
  have HB := Lib.hid (HK.out.2.1.trans (hb.mono HK.out.2.1.size))
  clear hp hb k0
  go_wp2
  refine bodyPost_ret (v := .tuple #[wv (0, 0), .bool false]) ?_ rfl ⟨rfl, ?_⟩
  · simp [results, Tryd.results61, go_sem, d0, d1]
  · exact (HB.out.setCell (Nat.le_refl _) _).setCell (Nat.le_refl _) _
set_option maxHeartbeats 1000000 in
theorem cprop_yes (ps : List (Int × Wd)) (key : Int) (a : Option Addr) (g o c k : Nat) (v : Wd) (w : World) (hg : g < w.heap.size) (hn : ps.length ≤ 20000) (hs : Asc ps) (ha : 0 < ps.length → ∃ b, a = some ⟨b, 0, none⟩ ∧ b < w.heap.size ∧ PAt w b ps) (c0 : w.cell? ⟨g, o + 3, none⟩ = some (.slice a ps.length c)) (hk : ps[k]? = some (key, v)) :
    Calls Tryd.prog 61 #[.pointer (some ⟨g, o, none⟩), .int .i64 key] w fun e w' => e = .returned (.tuple #[wv v, .bool true]) ∧ Below w.heap.size w w' := by
  have hbw := (Below.refl w.heap.size w).alloc (Nat.le_refl _) (.cells #[.int .i64 0, .int .i64 0] 37)
  have hkl := (List.getElem?_eq_some_iff.1 hk).1
  obtain ⟨b, rfl, hb, hP⟩ := ha (by omega)
  have cP := place_any ps key (some ⟨b, 0, none⟩) g o c (w.alloc (.cells #[.int .i64 0, .int .i64 0] 37)) hn hs (fun h => ⟨b, rfl, Nat.lt_of_lt_of_le hb hbw.size, hP.below hbw hb⟩) ((hbw.cell (p := ⟨g, _, none⟩) hg).trans c0)
  obtain ⟨m0, m1, m2⟩ := hP k _ hk
  have hkI : (k : Int) < (ps.length : Int) := by omega
  have CP := Lib.hid cP
  have HK := Lib.hid (And.intro (And.intro hs hk) (And.intro hbw (And.intro (alloc_at w (.cells #[.int .i64 0, .int .i64 0] 37)) (And.intro c0 (And.intro m1 m2)))))
  clear cP hs hP c0 hk hbw m0 m1 m2 hkl
  go_enter Tryd.func61, Tryd.ntmps61
  go_wp2_with fail
  refine CP.out.mono ?_
  rintro e w' ⟨i, f, hp, rfl, hbe⟩
  obtain ⟨rfl, rfl⟩ := hp.yes HK.out.1.1 HK.out.1.2
  have k0 := (hbe.block _ (by simp)).trans HK.out.2.2.1
  have hB := HK.out.2.1.trans (hbe.mono HK.out.2.1.size)
  have d0 : w'.cell? ⟨w.heap.size, 0, none⟩ = some (.int .i64 0) := cell_at k0
  have d1 : w'.cell? ⟨w.heap.size, 1, none⟩ = some (.int .i64 0) := cell_at k0
  have e0 : w'.frozen? ⟨w.heap.size, 0, none⟩ = false := frozen_at k0
  have e1 : w'.frozen? ⟨w.heap.size, 1, none⟩ = false := frozen_at k0
  have c1 := (hB.cell (p := ⟨g, _, none⟩) hg).trans HK.out.2.2.2.1
  have v1 := (hB.cell (p := ⟨b, _, none⟩) hb).trans HK.out.2.2.2.2.1
  have v2 := (hB.cell (p := ⟨b, _, none⟩) hb).trans HK.out.2.2.2.2.2
  have k2 := setCell_at (i := 1) (setCell_at (i := 0) k0 (.int .i64 v.1)) (.int .i64 v.2)
  have HB := Lib.hid (And.intro hB k2)
  clear hp hbe k0 hB k2
  generalize ps.length = n at *
  go_wp2_with fail
  have q0 := (cell_at (i := 0) HB.out.2)
  have q1 := (cell_at (i := 1) HB.out.2)
  refine bodyPost_ret (v := .tuple #[wv v, .bool true]) ?_ rfl ⟨rfl, ?_⟩
  · simp at q0 q1
    simp [results, Tryd.results61, go_sem, q0, q1]
  · exact (HB.out.1.setCell (Nat.le_refl _) _).setCell (Nat.le_refl _) _
end Go.Proofs.YtponbhhkccpbfaaDoor
