/- The contract of copyistkit.Same at two slices of ints. Conditions: none but that the slices' cells hold the ints. -/
import Derived.Test.YtjajeijeoohpoaaDoorText
import Derived.Deep.QuietTactic
import Derived.BigQuiet
namespace Go.Proofs.YtjajeijeoohpoaaDoor
open Go.RowKit Go.Lib Go.Shelf
set_option maxHeartbeats 400000 in
theorem same_not (a b : Option Addr) (c1 c2 n m : Nat) (w : World) (h : n ≠ m) :
    Calls Tryd.prog 30 #[.slice a n c1, .slice b m c2] w fun e w' => e = .returned (.bool false) ∧ w = w' := by
  have hz : ((n : Int) != (m : Int)) = true := by simp; omega
  go_enter Tryd.func30, Tryd.ntmps30
  go_wp2
  go_ret
  exact ⟨rfl, rfl⟩
set_option maxHeartbeats 1000000 in
theorem same_core (a b : Option Addr) (c1 c2 n : Nat) (la lb : List Int) (w : World) (hla : la.length = n) (hlb : lb.length = n) (hn : n ≤ 1000000)
    (ha : ∀ i x, la[i]? = some x → ∃ b off, a = some ⟨b, off, none⟩ ∧ b < w.heap.size ∧ w.cell? ⟨b, off + i, none⟩ = some (.int .i64 x))
    (hb : ∀ i x, lb[i]? = some x → ∃ b' off, b = some ⟨b', off, none⟩ ∧ b' < w.heap.size ∧ w.cell? ⟨b', off + i, none⟩ = some (.int .i64 x)) :
    Calls Tryd.prog 30 #[.slice a n c1, .slice b n c2] w fun e w' => e = .returned (.bool (decide (la = lb))) ∧ ∃ q, w' = w.drewN q := by
  obtain ⟨r, hr⟩ : ∃ r, decide (la = lb) = r := ⟨_, rfl⟩
  rw [hr]
  have HR : Hid _ := Lib.hid hr
  have HA : Hid _ := Lib.hid ha
  have HB : Hid _ := Lib.hid hb
  have HL : Hid _ := Lib.hid (And.intro hla hlb)
  have hz : ((n : Int) != (n : Int)) = false := by simp
  clear hr ha hb hla hlb
  go_enter Tryd.func30, Tryd.ntmps30
  go_wp2
  clear hz
  go_loopw [5] (fun i wr => ∃ (k q : Nat), i = .int .i64 k ∧ k ≤ n ∧ wr = w.drewN q ∧ Hid (la.take k = lb.take k)) (fun i _ => n - (intOf i).toNat)
  case atStart => exact ⟨0, 0, rfl, Nat.zero_le _, rfl, Lib.hid rfl⟩
  case round =>
    obtain ⟨k, q, rfl, hk, rfl, HT⟩ := hrel
    by_cases hlt : (k : Int) < (n : Int)
    · obtain ⟨x, hx⟩ : ∃ x, la[k]? = some x := ⟨la[k]'(by have := HL.out; omega), List.getElem?_eq_getElem _⟩
      obtain ⟨y, hy⟩ : ∃ y, lb[k]? = some y := ⟨lb[k]'(by have := HL.out; omega), List.getElem?_eq_getElem _⟩
      obtain ⟨b1, o1, ea, _, k1⟩ := HA.out k x hx
      obtain ⟨b2, o2, eb, _, k2⟩ := HB.out k y hy
      have s1 := take_snoc_int la k x hx
      have s2 := take_snoc_int lb k y hy
      subst ea
      subst eb
      have HX : Hid _ := Lib.hid (And.intro hx (And.intro hy (And.intro s1 s2)))
      clear hx hy s1 s2
      by_cases hxy : x = y
      · subst hxy
        have hz : (x != x) = false := by simp
        go_wp2
        go_quiet (fail)
        go_wp2
        go_roundw
        case rel => exact ⟨k + 1, q + nq, by go_num, by omega, rfl, Lib.hid (by rw [HX.out.2.2.1, HX.out.2.2.2, HT.out])⟩
        case measure => simp [intOf]; omega
      · have hz : (x != y) = true := by simpa using hxy
        have er : r = false := by
          rw [← HR.out, decide_eq_false_iff_not]
          intro e
          have h1 := HX.out.1
          rw [e, HX.out.2.1] at h1
          exact hxy (Option.some.inj h1).symm
        subst er
        clear hxy HR HA HB HL HT HX
        go_wp2
        go_quiet (fail)
        go_wp2
        go_ret
        exact ⟨rfl, q + nq, World.drewN_drewN _ _ _⟩
    · have hkn : k = n := by omega
      subst hkn
      have er : r = true := by
        rw [← HR.out, decide_eq_true_eq]
        have h1 := HT.out
        rw [List.take_of_length_le (by have := HL.out; omega), List.take_of_length_le (by have := HL.out; omega)] at h1
        exact h1
      subst er
      clear HR HA HB HL HT
      go_wp2
      go_ret
      exact ⟨rfl, q, rfl⟩
theorem same_any (va vb : Value) (la lb : List Int) (w : World) (ha : Sl va la w) (hb : Sl vb lb w) (hna : la.length ≤ 1000000) :
    Calls Tryd.prog 30 #[va, vb] w fun e w' => e = .returned (.bool (decide (la = lb))) ∧ Below w.heap.size w w' := by
  obtain ⟨a, c1, rfl, hca⟩ := ha
  obtain ⟨b, c2, rfl, hcb⟩ := hb
  by_cases h : la.length = lb.length
  · rw [← h]
    refine (same_core a b c1 c2 la.length la lb w rfl h.symm hna hca hcb).mono ?_
    rintro e w' ⟨he, q, rfl⟩
    exact ⟨he, below_drewN q (Below.refl _ _)⟩
  · refine (same_not a b c1 c2 la.length lb.length w h).mono ?_
    rintro e w' ⟨he, rfl⟩
    have : la ≠ lb := fun e => h (by rw [e])
    exact ⟨by rw [he]; simp [this], Below.refl _ _⟩
end Go.Proofs.YtjajeijeoohpoaaDoor
