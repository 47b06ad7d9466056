/- Properties: where a property lies in its list. -/
import Derived.Test.YtponbhhkccpbfaaDoorNmFun2
import Derived.Lib.Slices
import Derived.Lib.Small
namespace Go.Proofs.YtponbhhkccpbfaaDoor
open Go.RowKit Go.Lib Go.Shelf
theorem cmp_any (x y : Int) (w : World) :
    Calls Tryd.prog 82 #[.int .i64 x, .int .i64 y] w fun e w' => e = .returned (.int .i64 (Lib.compareInt x y)) ∧ w' = w := by
  go_enter Tryd.func82, Tryd.ntmps82
  go_wp2
  all_goals (go_ret; refine ⟨?_, rfl⟩; unfold Lib.compareInt; (repeat' split) <;> first | rfl | (exfalso; omega))
theorem cmp_lt (x y : Int) : Lib.compareInt x y < 0 ↔ x < y := by unfold Lib.compareInt; (repeat' split) <;> omega
theorem cmp_eq (x y : Int) : Lib.compareInt x y = 0 ↔ x = y := by unfold Lib.compareInt; (repeat' split) <;> omega
abbrev pag (p : Int × Wd) : Value := .agg #[.int .i64 p.1, .int .i64 p.2.1, .int .i64 p.2.2]
set_option maxHeartbeats 1000000 in
theorem place1_any (p : Int × Wd) (key : Int) (w : World) :
    Calls Tryd.prog 81 #[pag p, .int .i64 key] w fun e w' => e = .returned (.int .i64 (Lib.compareInt p.1 key)) ∧ Below w.heap.size w w' := by
  have HB := Lib.hid ((Below.refl w.heap.size w).alloc (Nat.le_refl _) (.cells #[.int .i64 p.1, .int .i64 p.2.1, .int .i64 p.2.2] 66))
  go_enter Tryd.func81, Tryd.ntmps81
  go_wp2_with fail
  refine (cmp_any _ _ _).mono ?_
  rintro e w' ⟨rfl, rfl⟩
  go_wp2
  go_ret
  exact ⟨rfl, HB.out⟩
/-- The cells of a list of properties. -/
def PAt (w : World) (b : Nat) (ps : List (Int × Wd)) : Prop := ∀ k p, ps[k]? = some p → w.cell? ⟨b, k * 3, none⟩ = some (.int .i64 p.1) ∧ w.cell? ⟨b, k * 3 + 1, none⟩ = some (.int .i64 p.2.1) ∧ w.cell? ⟨b, k * 3 + 2, none⟩ = some (.int .i64 p.2.2)
theorem PAt.below {w w' : World} {b : Nat} {ps : List (Int × Wd)} (h : PAt w b ps) (hw : Below w.heap.size w w') (hb : b < w.heap.size) : PAt w' b ps := fun k p hk => by
  obtain ⟨h1, h2, h3⟩ := h k p hk
  exact ⟨(hw.cell (p := ⟨b, k * 3, none⟩) hb).trans h1, (hw.cell (p := ⟨b, k * 3 + 1, none⟩) hb).trans h2, (hw.cell (p := ⟨b, k * 3 + 2, none⟩) hb).trans h3⟩
def Asc (ps : List (Int × Wd)) : Prop := ∀ (j k : Nat) (p q : Int × Wd), ps[j]? = some p → ps[k]? = some q → j < k → p.1 < q.1
structure PPlace (ps : List (Int × Wd)) (key : Int) (i : Nat) (f : Bool) : Prop where
  le : i ≤ ps.length
  lo : ∀ k p, ps[k]? = some p → k < i → p.1 < key
  hi : ∀ k p, ps[k]? = some p → i ≤ k → key ≤ p.1
  found : f = true ↔ ∃ p, ps[i]? = some p ∧ p.1 = key
set_option maxHeartbeats 4000000 in
theorem bsearch_any (ps : List (Int × Wd)) (key : Int) (a : Option Addr) (c : Nat) (w : World) (hn : ps.length ≤ 20000) (hs : Asc ps) (ha : 0 < ps.length → ∃ b, a = some ⟨b, 0, none⟩ ∧ b < w.heap.size ∧ PAt w b ps) :
    Calls Tryd.prog 80 #[.slice a ps.length c, .int .i64 key, .func (.func 81) #[] #[]] w fun e w' => ∃ (i : Nat) (f : Bool), PPlace ps key i f ∧ e = .returned (.tuple #[.int .i64 i, .bool f]) ∧ Below w.heap.size w w' := by
  have HS := Lib.hid (And.intro hs ha)
  obtain ⟨n, hnl⟩ : ∃ n, ps.length = n := ⟨_, rfl⟩
  have HL := Lib.hid hnl
  rw [hnl] at hn
  rw [hnl]
  clear hs ha hnl
  go_enter Tryd.func80, Tryd.ntmps80
  go_wp2_with fail
  go_loopg [9, 10] n (fun kx s9 s10 wr => ∃ lo hi : Nat, s9 = .int .i64 lo ∧ s10 = .int .i64 hi ∧ lo ≤ hi ∧ hi ≤ n ∧ hi - lo ≤ kx ∧ Hid (Below w.heap.size w wr ∧ (∀ k p, ps[k]? = some p → k < lo → p.1 < key) ∧ ∀ k p, ps[k]? = some p → hi ≤ k → key ≤ p.1))
  case atStart => exact ⟨0, n, rfl, rfl, Nat.zero_le _, Nat.le_refl _, by omega, Lib.hid ⟨Below.refl _ _, fun k p _ h => absurd h (Nat.not_lt_zero _), fun k p hk h => by have := (List.getElem?_eq_some_iff.1 hk).1; have := HL.out; omega⟩⟩
  case round =>
    obtain ⟨lo, hi, rfl, rfl, hlh, hin, hg, HM⟩ := hrel
    by_cases hlt : lo < hi
    · obtain ⟨p, hp⟩ : ∃ p, ps[(lo + hi) / 2]? = some p := ⟨_, List.getElem?_eq_getElem (by have := HL.out; omega)⟩
      obtain ⟨b, rfl, hb, hPA⟩ := HS.out.2 (by have := HL.out; omega)
      obtain ⟨m0, m1, m2⟩ := hPA _ p hp
      have n0 := (HM.out.1.cell (p := ⟨b, _, none⟩) hb).trans m0
      have n1 := (HM.out.1.cell (p := ⟨b, _, none⟩) hb).trans m1
      have n2 := (HM.out.1.cell (p := ⟨b, _, none⟩) hb).trans m2
      have hP := Lib.hid hp
      clear m0 m1 m2 hPA hp
      go_wp2_with fail
      obtain ⟨r, hr⟩ : ∃ r, Lib.compareInt p.1 key = r := ⟨_, rfl⟩
      have h1 := cmp_lt p.1 key
      rw [hr] at h1
      have cP := place1_any p key wr
      rw [hr] at cP
      refine cP.mono ?_
      rintro e w2 ⟨rfl, hb2⟩
      have hlo : ∀ k q, ps[k]? = some q → k < (lo + hi) / 2 → q.1 < p.1 := fun k q hk h => HS.out.1 k _ q p hk hP.out h
      have hhi : ∀ k q, ps[k]? = some q → (lo + hi) / 2 < k → p.1 < q.1 := fun k q hk h => HS.out.1 _ k p q hP.out hk h
      have HX := Lib.hid (And.intro hlo (And.intro hhi (And.intro h1 (HM.out.1.trans (hb2.mono HM.out.1.size)))))
      clear hr h1 cP hb2 n0 n1 n2 hlo hhi
      by_cases hyx : r < 0
      · go_wp2_with fail
        go_roundg (hi - ((lo + hi) / 2 + 1))
        case measure => omega
        case rel =>
          obtain ⟨hlo, hhi, h1, hbw⟩ := HX.out
          exact ⟨(lo + hi) / 2 + 1, hi, by rw [show ((lo : Int) + (hi : Int)) / 2 + 1 = (((lo + hi) / 2 + 1 : Nat) : Int) by omega], rfl, by omega, hin, Nat.le_refl _, Lib.hid ⟨hbw, fun k q hk h => by
            have hk1 := h1.1 hyx
            rcases Nat.lt_or_ge k ((lo + hi) / 2) with h2 | h2
            · have := hlo k q hk h2; omega
            · obtain rfl : k = (lo + hi) / 2 := by omega
              have := hP.out.symm.trans hk
              cases this
              exact hk1, HM.out.2.2⟩⟩
      · go_wp2_with fail
        go_roundg ((lo + hi) / 2 - lo)
        case measure => omega
        case rel =>
          obtain ⟨hlo, hhi, h1, hbw⟩ := HX.out
          exact ⟨lo, (lo + hi) / 2, rfl, by rw [show ((lo : Int) + (hi : Int)) / 2 = (((lo + hi) / 2 : Nat) : Int) by omega], by omega, by omega, Nat.le_refl _, Lib.hid ⟨hbw, HM.out.2.1, fun k q hk h => by
            have hk1 : key ≤ p.1 := by
              rcases Int.lt_or_le p.1 key with h2 | h2
              · exact absurd (h1.2 h2) (by omega)
              · exact h2
            rcases Nat.lt_or_ge ((lo + hi) / 2) k with h2 | h2
            · have := hhi k q hk h2; omega
            · obtain rfl : k = (lo + hi) / 2 := by omega
              have := hP.out.symm.trans hk
              cases this
              exact hk1⟩⟩
    · obtain rfl : hi = lo := by omega
      by_cases hlt2 : hi < n
      · obtain ⟨p, hp⟩ : ∃ p, ps[hi]? = some p := ⟨_, List.getElem?_eq_getElem (by have := HL.out; omega)⟩
        obtain ⟨b, rfl, hb, hPA⟩ := HS.out.2 (by have := HL.out; omega)
        obtain ⟨m0, m1, m2⟩ := hPA _ p hp
        have n0 := (HM.out.1.cell (p := ⟨b, _, none⟩) hb).trans m0
        have n1 := (HM.out.1.cell (p := ⟨b, _, none⟩) hb).trans m1
        have n2 := (HM.out.1.cell (p := ⟨b, _, none⟩) hb).trans m2
        have hP := Lib.hid hp
        clear m0 m1 m2 hPA hp
        go_wp2_with fail
        obtain ⟨r, hr⟩ : ∃ r, Lib.compareInt p.1 key = r := ⟨_, rfl⟩
        have h1 := cmp_eq p.1 key
        rw [hr] at h1
        have cP := place1_any p key wr
        rw [hr] at cP
        refine cP.mono ?_
        rintro e w2 ⟨rfl, hb2⟩
        have HX := Lib.hid (And.intro h1 (HM.out.1.trans (hb2.mono HM.out.1.size)))
        clear hr h1 cP hb2 n0 n1 n2
        go_wp2
        go_ret2
        refine ⟨hi, r == 0, ⟨by have := HL.out; omega, HM.out.2.1, HM.out.2.2, ?_⟩, rfl, HX.out.2⟩
        rw [hP.out, beq_iff_eq, HX.out.1]
        constructor
        · exact fun h => ⟨p, rfl, h⟩
        · rintro ⟨q, hq, h⟩
          cases hq
          exact h
      · go_wp2
        go_ret2
        refine ⟨hi, false, ⟨by have := HL.out; omega, HM.out.2.1, HM.out.2.2, ?_⟩, rfl, HM.out.1⟩
        constructor
        · intro h; cases h
        · rintro ⟨q, hq, h⟩
          have := (List.getElem?_eq_some_iff.1 hq).1
          have := HL.out
          omega
set_option maxHeartbeats 1000000 in
theorem place_any (ps : List (Int × Wd)) (key : Int) (a : Option Addr) (g o c : Nat) (w : World) (hn : ps.length ≤ 20000) (hs : Asc ps) (ha : 0 < ps.length → ∃ b, a = some ⟨b, 0, none⟩ ∧ b < w.heap.size ∧ PAt w b ps) (c0 : w.cell? ⟨g, o + 3, none⟩ = some (.slice a ps.length c)) :
    Calls Tryd.prog 73 #[.pointer (some ⟨g, o, none⟩), .int .i64 key] w fun e w' => ∃ (i : Nat) (f : Bool), PPlace ps key i f ∧ e = .returned (.tuple #[.int .i64 i, .bool f]) ∧ Below w.heap.size w w' := by
  have CB := Lib.hid (bsearch_any ps key a c w hn hs ha)
  clear hn hs ha
  generalize ps.length = n at *
  go_enter Tryd.func73, Tryd.ntmps73
  go_wp2_with fail
  refine CB.out.mono ?_
  rintro e w' ⟨i, f, hp, rfl, hb⟩
  have HB := Lib.hid (And.intro hp hb)
  clear hp hb
  go_wp2
  go_ret2
  exact ⟨i, f, HB.out.1, rfl, HB.out.2⟩
end Go.Proofs.YtponbhhkccpbfaaDoor
