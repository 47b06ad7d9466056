/- The contract of copyistkit.Same at two slices of words. -/
import Derived.Test.YtgkblfegjmeolaaVaWGet
import Derived.Deep.QuietTactic
import Derived.BigQuiet
namespace Go.Proofs.Ytgkblfegjmeolaa
open Go.RowKit Go.Lib
set_option maxHeartbeats 400000 in
theorem same_not (a b : Option Addr) (c1 c2 n m : Nat) (w : World) (h : n ≠ m) :
    Calls Try.prog 29 #[.slice a n c1, .slice b m c2] w fun e w' => e = .returned (.bool false) ∧ w = w' := by
  have hz : ((n : Int) != (m : Int)) = true := by simp; omega
  go_enter Try.func29, Try.ntmps29
  go_wp2
  go_ret
  exact ⟨rfl, rfl⟩
set_option maxHeartbeats 1000000 in
theorem same_core (a b : Option Addr) (c1 c2 n : Nat) (la lb : List Wd) (w : World) (hla : la.length = n) (hlb : lb.length = n) (hn : n ≤ 200000000000)
    (ha : ∀ i x, la[i]? = some x → ∃ b off, a = some ⟨b, off, none⟩ ∧ w.cell? ⟨b, off + i * 2, none⟩ = some (.int .i64 x.1) ∧ w.cell? ⟨b, off + i * 2 + 1, none⟩ = some (.int .i64 x.2))
    (hb : ∀ i x, lb[i]? = some x → ∃ b' off, b = some ⟨b', off, none⟩ ∧ w.cell? ⟨b', off + i * 2, none⟩ = some (.int .i64 x.1) ∧ w.cell? ⟨b', off + i * 2 + 1, none⟩ = some (.int .i64 x.2)) :
    Calls Try.prog 29 #[.slice a n c1, .slice b n c2] w fun e w' => e = .returned (.bool (decide (la = lb))) ∧ ∃ q, w' = w.drewN q := by
  obtain ⟨r, hr⟩ : ∃ r, decide (la = lb) = r := ⟨_, rfl⟩
  rw [hr]
  have HR := Lib.hid hr
  have HA := Lib.hid ha
  have HB := Lib.hid hb
  have HL := Lib.hid (And.intro hla hlb)
  have hz : ((n : Int) != (n : Int)) = false := by simp
  clear hr ha hb hla hlb
  go_enter Try.func29, Try.ntmps29
  go_wp2
  clear hz
  go_loopw [5] (fun i wr => ∃ (k q : Nat), i = .int .i64 k ∧ k ≤ n ∧ wr = w.drewN q ∧ Hid (la.take k = lb.take k)) (fun i _ => n - (RowKit.intOf i).toNat)
  case atStart => exact ⟨0, 0, rfl, Nat.zero_le _, rfl, Lib.hid rfl⟩
  case round =>
    obtain ⟨k, q, rfl, hk, rfl, HT⟩ := hrel
    by_cases hlt : (k : Int) < (n : Int)
    · obtain ⟨x, hx⟩ : ∃ x, la[k]? = some x := ⟨la[k]'(by have := HL.out; omega), List.getElem?_eq_getElem _⟩
      obtain ⟨y, hy⟩ : ∃ y, lb[k]? = some y := ⟨lb[k]'(by have := HL.out; omega), List.getElem?_eq_getElem _⟩
      obtain ⟨b1, o1, ea, k1, k2⟩ := HA.out k x hx
      obtain ⟨b2, o2, eb, k3, k4⟩ := HB.out k y hy
      have s1 : la.take (k + 1) = la.take k ++ [x] := by rw [List.take_add_one, hx]; rfl
      have s2 : lb.take (k + 1) = lb.take k ++ [y] := by rw [List.take_add_one, hy]; rfl
      subst ea
      subst eb
      have HX := Lib.hid (And.intro hx (And.intro hy (And.intro s1 s2)))
      clear hx hy s1 s2
      obtain ⟨x0, x1⟩ := x
      obtain ⟨y0, y1⟩ := y
      by_cases hxy : x0 = y0 ∧ x1 = y1
      · obtain ⟨rfl, rfl⟩ := hxy
        have hz1 : (x0 == x0) = true := by simp
        have hz2 : (x1 == x1) = true := by simp
        go_wp2
        go_quiet (fail)
        go_wp2
        go_roundw
        case rel => exact ⟨k + 1, q + nq, by go_num, by omega, rfl, Lib.hid (by rw [HX.out.2.2.1, HX.out.2.2.2, HT.out])⟩
        case measure => simp [RowKit.intOf]; omega
      · have er : r = false := by
          rw [← HR.out, decide_eq_false_iff_not]
          intro e
          have h1 := HX.out.1
          rw [e, HX.out.2.1] at h1
          have := Option.some.inj h1
          exact hxy ⟨(congrArg Prod.fst this).symm, (congrArg Prod.snd this).symm⟩
        subst er
        by_cases h0 : x0 = y0
        · subst h0
          have hz1 : (x0 == x0) = true := by simp
          have hz2 : (x1 == y1) = false := by
            rw [beq_eq_false_iff_ne]; intro e; exact hxy ⟨rfl, e⟩
          clear hxy HR HA HB HL HT HX
          go_wp2
          go_quiet (fail)
          go_wp2
          go_ret
          exact ⟨rfl, q + nq, World.drewN_drewN _ _ _⟩
        · have hz1 : (x0 == y0) = false := by rw [beq_eq_false_iff_ne]; exact h0
          clear hxy h0 HR HA HB HL HT HX
          go_wp2
          go_quiet (fail)
          go_wp2
          go_ret
          exact ⟨rfl, q + nq, World.drewN_drewN _ _ _⟩
    · have hkn : k = n := by omega
      subst hkn
      have er : r = true := by
        rw [← HR.out, decide_eq_true_eq]
        have h1 := HT.out
        rw [List.take_of_length_le (by have := HL.out; omega), List.take_of_length_le (by have := HL.out; omega)] at h1
        exact h1
      subst er
      clear HR HA HB HL HT
      go_wp2
      go_ret
      exact ⟨rfl, q, rfl⟩
/-- A slice's cells hold the words. -/
def SlW (w : World) (v : Value) (l : List Wd) : Prop :=
  ∃ a c, v = .slice a l.length c ∧ ∀ i x, l[i]? = some x → ∃ b off, a = some ⟨b, off, none⟩ ∧ w.cell? ⟨b, off + i * 2, none⟩ = some (.int .i64 x.1) ∧ w.cell? ⟨b, off + i * 2 + 1, none⟩ = some (.int .i64 x.2)
theorem SlW.of_own {w : World} {B : Nat} {v : Value} {l : List Wd} (h : w.ownsRow B 28 2 v l.length (wcells l)) : SlW w v l := by
  have h0 := h
  rcases h.2 with ⟨h1, h2⟩ | ⟨g, cap, cur, h1, h2⟩
  · refine ⟨none, 0, by rw [h1, h2], fun i x hx => ?_⟩
    rw [List.length_eq_zero_iff.1 h2] at hx
    simp at hx
  · refine ⟨_, cap, h1, fun i x hx => ⟨g, 0, rfl, ?_, ?_⟩⟩
    · have := World.ownsRow.cells h0 (g := g) (by rw [h1]; rfl) (i * 2) _ (wcells_fst l i x hx)
      simpa [Go.WideShapes.add_plain] using this
    · have := World.ownsRow.cells h0 (g := g) (by rw [h1]; rfl) (i * 2 + 1) _ (wcells_snd l i x hx)
      simpa [Go.WideShapes.add_plain] using this
theorem same_word {w : World} {va vb : Value} {la lb : List Wd} (ha : SlW w va la) (hb : SlW w vb lb) (hn : la.length ≤ 200000000000) :
    Calls Try.prog 29 #[va, vb] w fun e w' => e = .returned (.bool (decide (la = lb))) ∧ Below w.heap.size w w' := by
  obtain ⟨a, c1, rfl, hca⟩ := ha
  obtain ⟨b, c2, rfl, hcb⟩ := hb
  by_cases h : la.length = lb.length
  · rw [← h]
    refine (same_core a b c1 c2 la.length la lb w rfl h.symm hn hca hcb).mono ?_
    rintro e w' ⟨he, q, rfl⟩
    exact ⟨he, below_drewN w q⟩
  · refine (same_not a b c1 c2 la.length lb.length w h).mono ?_
    rintro e w' ⟨he, rfl⟩
    refine ⟨?_, Below.refl _ _⟩
    rw [he, decide_eq_false (fun e => h (by rw [e]))]
theorem OwnL.slw {w : World} {v : Value} {l : List Wd} (h : OwnL w v l) : SlW w v l := SlW.of_own (B := 0) h
end Go.Proofs.Ytgkblfegjmeolaa
