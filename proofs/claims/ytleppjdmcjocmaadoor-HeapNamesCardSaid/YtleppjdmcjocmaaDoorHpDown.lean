/- container/heap's down on the free numbers. -/
import Derived.Test.YtleppjdmcjocmaaDoorHpRel
namespace Go.Proofs.YtleppjdmcjocmaaDoor
open Go.RowKit Go.Lib
/-- The smaller child. -/
def childL (l : List Int) (i n : Nat) : Nat := if 2 * i + 2 < n ∧ l.getD (2 * i + 2) 0 < l.getD (2 * i + 1) 0 then 2 * i + 2 else 2 * i + 1
theorem childL_le (l : List Int) (i n : Nat) (h : 2 * i + 1 < n) : i < childL l i n ∧ childL l i n < n := by
  unfold childL
  split <;> omega
/-- container/heap's down, as plain data. -/
def downL (l : List Int) (i n : Nat) : List Int :=
  if _h : n ≤ 2 * i + 1 ∨ ¬ l.getD (childL l i n) 0 < l.getD i 0 then l else downL (swapL l i (childL l i n)) (childL l i n) n
termination_by n - i
decreasing_by
  have := childL_le l i n (by omega)
  omega
theorem downL_length (l : List Int) (i n : Nat) : (downL l i n).length = l.length := by
  fun_induction downL l i n with
  | case1 => rfl
  | case2 l i h ih => rw [ih, swapL_length]
theorem downL_perm (l : List Int) (i n : Nat) (hn : n ≤ l.length) : (downL l i n).Perm l := by
  fun_induction downL l i n with
  | case1 => exact List.Perm.refl _
  | case2 l i h ih =>
    have hc := childL_le l i n (by omega)
    exact (ih (by rw [swapL_length]; exact hn)).trans (swapL_perm l _ _ (by omega) (by omega))
set_option maxHeartbeats 1000000 in
set_option maxRecDepth 20000 in
theorem down_any (hb g cap i n : Nat) (l : List Int) (G : Nat → Nat) (w : World) (hi : i ≤ n) (hnl : n ≤ l.length) (hn : l.length ≤ 100000) (hne : g ≠ hb) (hbl : hb < w.heap.size) (hv : w.cell? ⟨hb, 2, none⟩ = some (.slice (some ⟨g, 0, none⟩) l.length cap))
    (hr : Row w G 3 3 1 (.slice (some ⟨g, 0, none⟩) l.length cap) l.length (ints l)) :
    Calls Tryd.prog 63 #[nface hb, .int .i64 i, .int .i64 n] w fun e w' => (∃ b, e = .returned (.bool b)) ∧ Keeps (fun k => if k = g then 1 else 0) w w' ∧ w'.heap.size = w.heap.size ∧
      Row w' G 3 3 1 (.slice (some ⟨g, 0, none⟩) l.length cap) l.length (ints (downL l i n)) := by
  have H := Lib.hid (And.intro hr (And.intro hv (And.intro hne hbl)))
  clear hr hv hne hbl
  go_enter Tryd.func63, Tryd.ntmps63
  go_wp2_with fail
  go_loopg [7] (n - i) (fun gk kv wr => ∃ (k : Nat) (l' : List Int), gk = n - k ∧ k ≤ n ∧ kv = .int .i64 k ∧ l'.length = l.length ∧ downL l' k n = downL l i n ∧ Keeps (fun k => if k = g then 1 else 0) w wr ∧ wr.heap.size = w.heap.size ∧ Row wr G 3 3 1 (.slice (some ⟨g, 0, none⟩) l'.length cap) l'.length (ints l'))
  case atStart => exact ⟨i, l, by omega, hi, rfl, rfl, rfl, Keeps.refl _ _, rfl, H.out.1⟩
  case round =>
    obtain ⟨k, l', hgk, hk, rfl, hl, hu, hkp, hsz, hr⟩ := hrel
    have hv : wr.cell? ⟨hb, 2, none⟩ = some (.slice (some ⟨g, 0, none⟩) l'.length cap) := by
      rw [hl, ← H.out.2.1]
      exact World.cell?_of_block (hkp.block hb H.out.2.2.2 (if_neg (Ne.symm H.out.2.2.1)))
    have HK := Lib.hid (And.intro hl (And.intro hu (And.intro hkp (And.intro hsz (And.intro hr hgk)))))
    clear hl hu hkp hsz hr hgk
    obtain ⟨j1, hj1⟩ : ∃ j1 : Nat, j1 = 2 * k + 1 := ⟨_, rfl⟩
    obtain ⟨j2, hj2⟩ : ∃ j2 : Nat, j2 = 2 * k + 2 := ⟨_, rfl⟩
    have e1 : (2 : Int) * (k : Int) + 1 = (j1 : Int) := by omega
    have e2 : (j1 : Int) + 1 = (j2 : Int) := by omega
    have q1 : decide ((j1 : Int) < 0) = false := by simp
    have hdn : downL l' k n = if n ≤ 2 * k + 1 ∨ ¬ l'.getD (childL l' k n) 0 < l'.getD k 0 then l' else downL (swapL l' k (childL l' k n)) (childL l' k n) n := by
      rw [downL]
      split <;> rfl
    have hkn : (k : Int) ≤ 100000 := by have := HK.out.1; omega
    by_cases hA : n ≤ j1
    · have q0 : decide ((n : Int) ≤ (j1 : Int)) = true := by simp; omega
      rw [if_pos (Or.inl (by omega))] at hdn
      have HD := Lib.hid hdn
      clear hdn hj1 hj2
      go_wp2_with fail
      go_ret
      refine ⟨⟨_, rfl⟩, HK.out.2.2.1, HK.out.2.2.2.1, ?_⟩
      rw [← HK.out.2.1, HD.out, ← HK.out.1]
      exact HK.out.2.2.2.2.1
    · have q0 : decide ((n : Int) ≤ (j1 : Int)) = false := by simp; omega
      have hA2 : j1 < n := by omega
      have hjl : j1 < l'.length := by have := HK.out.1; omega
      have hkl : k < l'.length := by omega
      obtain ⟨cur, kg, hcell, _⟩ := HK.out.2.2.2.2.1.ints_at
      have hmL := fun d : Nat => mt_less (w := wr.drewN d) hv
      have hmL0 := mt_less (w := wr) hv
      have hmS := fun d : Nat => mt_swap (w := wr.drewN d) hv
      have cells := fun j (hj : j < l'.length) => (cell_at (i := j) kg).trans (hcell j hj)
      have HC := Lib.hid (And.intro kg (And.intro hcell cells))
      have hkj1 : k ≠ j1 := by omega
      have hkj2 : k ≠ j2 := by omega
      clear kg hcell cells
      by_cases hB : j2 < n
      · have q2 : decide ((j2 : Int) < (n : Int)) = true := by simp; omega
        have hj2l : j2 < l'.length := by have := HK.out.1; omega
        by_cases hx : l'.getD j2 0 < l'.getD j1 0
        · have hxd : decide (l'.getD j2 0 < l'.getD j1 0) = true := by simpa using hx
          have hch : childL l' k n = j2 := by unfold childL; rw [← hj1, ← hj2, if_pos ⟨hB, hx⟩]
          rw [hch] at hdn
          obtain ⟨xk, hxk⟩ : ∃ x, x = l'.getD k 0 := ⟨_, rfl⟩
          obtain ⟨xj, hxj⟩ : ∃ x, x = l'.getD j2 0 := ⟨_, rfl⟩
          have cK := HC.out.2.2 k hkl
          have cJ := HC.out.2.2 j2 hj2l
          have uK := HC.out.2.1 k hkl
          have uJ := HC.out.2.1 j2 hj2l
          obtain ⟨x1, hx1⟩ : ∃ x, x = l'.getD j1 0 := ⟨_, rfl⟩
          obtain ⟨x2, hx2⟩ : ∃ x, x = l'.getD j2 0 := ⟨_, rfl⟩
          have c1 := HC.out.2.2 j1 hjl
          have c2 := HC.out.2.2 j2 hj2l
          rw [← hx1] at c1
          rw [← hx2] at c2
          rw [← hx2, ← hx1] at hxd
          have LC1 := Lib.hid c1
          have LC2 := Lib.hid c2
          clear c1 c2
          rw [← hxk] at cK uK
          rw [← hxj] at cJ uJ
          rw [← hxj, ← hxk] at hdn
          have LK := Lib.hid cK
          have LJ := Lib.hid cJ
          have HX := Lib.hid (And.intro hxk (And.intro hxj (And.intro uK uJ)))
          clear cK cJ uK uJ hxk hxj hx1 hx2 hx
          by_cases hy : xj < xk
          · have hyd : decide (xj < xk) = true := by simpa using hy
            rw [if_neg (by omega)] at hdn
            have HD := Lib.hid (And.intro hdn (And.intro hj1 hj2))
            clear hdn hj1 hj2 hy hch
            go_wp2_with (first
              | (go_at_call_of 82 (Value.int IntKind.i64 (j1 : Int)); refine (less_any g _ cap j2 j1 x2 x1 wr hj2l hjl LC2.out LC1.out).mono ?_; rintro e w1 ⟨rfl, d, rfl⟩)
              | (go_at_call_of 82 (Value.int IntKind.i64 (k : Int)); refine (less_any g _ cap j2 k xj xk (wr.drewN d) hj2l hkl LJ.out LK.out).mono ?_; rintro e w2 ⟨rfl, d2, rfl⟩)
              | (go_at_call 83; refine (swap_ne g _ cap k j2 3 cur xk xj _ hkl hj2l hkj2 (show (wr.drewN (d + d2)).heap[g]? = _ from HC.out.1) HX.out.2.2.1 HX.out.2.2.2).mono ?_; rintro e w3 ⟨rfl, hsw⟩; have HS := Lib.hid hsw; clear hsw))
            go_roundg (n - j2)
            case measure => have := HK.out.2.2.2.2.2; have := HD.out.2.1; have := HD.out.2.2; omega
            case rel =>
              refine ⟨j2, swapL l' k j2, rfl, by omega, by go_num, by rw [swapL_length]; exact HK.out.1, HD.out.1.symm.trans HK.out.2.1, ?_, ?_, ?_⟩
              · exact HK.out.2.2.1.trans (G' := fun k => if k = g then 1 else 0) ⟨HS.out.os, HS.out.tape, HS.out.output, Nat.le_of_eq HS.out.size.symm, fun k hk hz => HS.out.block k (fun e => by simp [e] at hz)⟩ (fun _ _ h => h)
              · rw [HS.out.size]; exact HK.out.2.2.2.1
              · have hs := HS.out
                rw [HX.out.1, HX.out.2.1] at hs
                have hw := Row.swapped (w := wr) (w' := w3) HK.out.2.2.2.2.1 HC.out.1 ⟨hs.os, hs.tape, hs.output, hs.size, hs.block, hs.row⟩
                rw [swapL_length]
                exact hw
          · have hyd : decide (xj < xk) = false := by simpa using hy
            rw [if_pos (by omega)] at hdn
            have HD := Lib.hid hdn
            clear hdn hj1 hj2 hy hch
            go_wp2_with (first
              | (go_at_call_of 82 (Value.int IntKind.i64 (j1 : Int)); refine (less_any g _ cap j2 j1 x2 x1 wr hj2l hjl LC2.out LC1.out).mono ?_; rintro e w1 ⟨rfl, d, rfl⟩)
              | (go_at_call_of 82 (Value.int IntKind.i64 (k : Int)); refine (less_any g _ cap j2 k xj xk (wr.drewN d) hj2l hkl LJ.out LK.out).mono ?_; rintro e w2 ⟨rfl, d2, rfl⟩))
            go_ret
            refine ⟨⟨_, rfl⟩, HK.out.2.2.1.drewN _, HK.out.2.2.2.1, ?_⟩
            rw [← HK.out.2.1, HD.out, ← HK.out.1]
            exact HK.out.2.2.2.2.1.keep (fun _ _ _ => rfl) (fun _ _ e => e)
        · have hxd : decide (l'.getD j2 0 < l'.getD j1 0) = false := by simpa using hx
          have hch : childL l' k n = j1 := by unfold childL; rw [← hj1, ← hj2, if_neg (fun h => hx h.2)]
          rw [hch] at hdn
          obtain ⟨xk, hxk⟩ : ∃ x, x = l'.getD k 0 := ⟨_, rfl⟩
          obtain ⟨xj, hxj⟩ : ∃ x, x = l'.getD j1 0 := ⟨_, rfl⟩
          have cK := HC.out.2.2 k hkl
          have cJ := HC.out.2.2 j1 hjl
          have uK := HC.out.2.1 k hkl
          have uJ := HC.out.2.1 j1 hjl
          obtain ⟨x1, hx1⟩ : ∃ x, x = l'.getD j1 0 := ⟨_, rfl⟩
          obtain ⟨x2, hx2⟩ : ∃ x, x = l'.getD j2 0 := ⟨_, rfl⟩
          have c1 := HC.out.2.2 j1 hjl
          have c2 := HC.out.2.2 j2 hj2l
          rw [← hx1] at c1
          rw [← hx2] at c2
          rw [← hx2, ← hx1] at hxd
          have LC1 := Lib.hid c1
          have LC2 := Lib.hid c2
          clear c1 c2
          rw [← hxk] at cK uK
          rw [← hxj] at cJ uJ
          rw [← hxj, ← hxk] at hdn
          have LK := Lib.hid cK
          have LJ := Lib.hid cJ
          have HX := Lib.hid (And.intro hxk (And.intro hxj (And.intro uK uJ)))
          clear cK cJ uK uJ hxk hxj hx1 hx2 hx
          by_cases hy : xj < xk
          · have hyd : decide (xj < xk) = true := by simpa using hy
            rw [if_neg (by omega)] at hdn
            have HD := Lib.hid (And.intro hdn (And.intro hj1 hj2))
            clear hdn hj1 hj2 hy hch
            go_wp2_with (first
              | (go_at_call_of 82 (Value.int IntKind.i64 (j2 : Int)); refine (less_any g _ cap j2 j1 x2 x1 wr hj2l hjl LC2.out LC1.out).mono ?_; rintro e w1 ⟨rfl, d, rfl⟩)
              | (go_at_call_of 82 (Value.int IntKind.i64 (k : Int)); refine (less_any g _ cap j1 k xj xk (wr.drewN d) hjl hkl LJ.out LK.out).mono ?_; rintro e w2 ⟨rfl, d2, rfl⟩)
              | (go_at_call 83; refine (swap_ne g _ cap k j1 3 cur xk xj _ hkl hjl hkj1 (show (wr.drewN (d + d2)).heap[g]? = _ from HC.out.1) HX.out.2.2.1 HX.out.2.2.2).mono ?_; rintro e w3 ⟨rfl, hsw⟩; have HS := Lib.hid hsw; clear hsw))
            go_roundg (n - j1)
            case measure => have := HK.out.2.2.2.2.2; have := HD.out.2.1; have := HD.out.2.2; omega
            case rel =>
              refine ⟨j1, swapL l' k j1, rfl, by omega, by go_num, by rw [swapL_length]; exact HK.out.1, HD.out.1.symm.trans HK.out.2.1, ?_, ?_, ?_⟩
              · exact HK.out.2.2.1.trans (G' := fun k => if k = g then 1 else 0) ⟨HS.out.os, HS.out.tape, HS.out.output, Nat.le_of_eq HS.out.size.symm, fun k hk hz => HS.out.block k (fun e => by simp [e] at hz)⟩ (fun _ _ h => h)
              · rw [HS.out.size]; exact HK.out.2.2.2.1
              · have hs := HS.out
                rw [HX.out.1, HX.out.2.1] at hs
                have hw := Row.swapped (w := wr) (w' := w3) HK.out.2.2.2.2.1 HC.out.1 ⟨hs.os, hs.tape, hs.output, hs.size, hs.block, hs.row⟩
                rw [swapL_length]
                exact hw
          · have hyd : decide (xj < xk) = false := by simpa using hy
            rw [if_pos (by omega)] at hdn
            have HD := Lib.hid hdn
            clear hdn hj1 hj2 hy hch
            go_wp2_with (first
              | (go_at_call_of 82 (Value.int IntKind.i64 (j2 : Int)); refine (less_any g _ cap j2 j1 x2 x1 wr hj2l hjl LC2.out LC1.out).mono ?_; rintro e w1 ⟨rfl, d, rfl⟩)
              | (go_at_call_of 82 (Value.int IntKind.i64 (k : Int)); refine (less_any g _ cap j1 k xj xk (wr.drewN d) hjl hkl LJ.out LK.out).mono ?_; rintro e w2 ⟨rfl, d2, rfl⟩))
            go_ret
            refine ⟨⟨_, rfl⟩, HK.out.2.2.1.drewN _, HK.out.2.2.2.1, ?_⟩
            rw [← HK.out.2.1, HD.out, ← HK.out.1]
            exact HK.out.2.2.2.2.1.keep (fun _ _ _ => rfl) (fun _ _ e => e)
      · have q2 : decide ((j2 : Int) < (n : Int)) = false := by simp; omega
        have hch : childL l' k n = j1 := by unfold childL; rw [← hj1, ← hj2, if_neg (fun h => hB h.1)]
        rw [hch] at hdn
        obtain ⟨xk, hxk⟩ : ∃ x, x = l'.getD k 0 := ⟨_, rfl⟩
        obtain ⟨xj, hxj⟩ : ∃ x, x = l'.getD j1 0 := ⟨_, rfl⟩
        have cK := HC.out.2.2 k hkl
        have cJ := HC.out.2.2 j1 hjl
        have uK := HC.out.2.1 k hkl
        have uJ := HC.out.2.1 j1 hjl
        rw [← hxk] at cK uK
        rw [← hxj] at cJ uJ
        rw [← hxj, ← hxk] at hdn
        have LK := Lib.hid cK
        have LJ := Lib.hid cJ
        have HX := Lib.hid (And.intro hxk (And.intro hxj (And.intro uK uJ)))
        clear cK cJ uK uJ hxk hxj
        by_cases hy : xj < xk
        · have hyd : decide (xj < xk) = true := by simpa using hy
          rw [if_neg (by omega)] at hdn
          have HD := Lib.hid (And.intro hdn (And.intro hj1 hj2))
          clear hdn hj1 hj2 hy hch
          go_wp2_with (first
            | (go_at_call_of 82 (Value.int IntKind.i64 (k : Int)); refine (less_any g _ cap j1 k xj xk wr hjl hkl LJ.out LK.out).mono ?_; rintro e w2 ⟨rfl, d2, rfl⟩)
            | (go_at_call 83; refine (swap_ne g _ cap k j1 3 cur xk xj _ hkl hjl hkj1 (show (wr.drewN d2).heap[g]? = _ from HC.out.1) HX.out.2.2.1 HX.out.2.2.2).mono ?_; rintro e w3 ⟨rfl, hsw⟩; have HS := Lib.hid hsw; clear hsw))
          go_roundg (n - j1)
          case measure => have := HK.out.2.2.2.2.2; have := HD.out.2.1; have := HD.out.2.2; omega
          case rel =>
            refine ⟨j1, swapL l' k j1, rfl, by omega, by go_num, by rw [swapL_length]; exact HK.out.1, HD.out.1.symm.trans HK.out.2.1, ?_, ?_, ?_⟩
            · exact HK.out.2.2.1.trans (G' := fun k => if k = g then 1 else 0) ⟨HS.out.os, HS.out.tape, HS.out.output, Nat.le_of_eq HS.out.size.symm, fun k hk hz => HS.out.block k (fun e => by simp [e] at hz)⟩ (fun _ _ h => h)
            · rw [HS.out.size]; exact HK.out.2.2.2.1
            · have hs := HS.out
              rw [HX.out.1, HX.out.2.1] at hs
              have hw := Row.swapped (w := wr) (w' := w3) HK.out.2.2.2.2.1 HC.out.1 ⟨hs.os, hs.tape, hs.output, hs.size, hs.block, hs.row⟩
              rw [swapL_length]
              exact hw
        · have hyd : decide (xj < xk) = false := by simpa using hy
          rw [if_pos (by omega)] at hdn
          have HD := Lib.hid hdn
          clear hdn hj1 hj2 hy hch
          go_wp2_with (go_at_call_of 82 (Value.int IntKind.i64 (k : Int)); refine (less_any g _ cap j1 k xj xk wr hjl hkl LJ.out LK.out).mono ?_; rintro e w2 ⟨rfl, d2, rfl⟩)
          go_ret
          refine ⟨⟨_, rfl⟩, HK.out.2.2.1.drewN _, HK.out.2.2.2.1, ?_⟩
          rw [← HK.out.2.1, HD.out, ← HK.out.1]
          exact HK.out.2.2.2.2.1.keep (fun _ _ _ => rfl) (fun _ _ e => e)
end Go.Proofs.YtleppjdmcjocmaaDoor
