/- Contracts that the law NamesNames needs besides: Times, the reference's Fixed, no table, SetFunc's errors. -/
import Derived.Test.YtponbhhkccpbfaaDoorNmGet
import Derived.Test.YtponbhhkccpbfaaDoorNmFull
import Derived.Lib.TrimAscii
namespace Go.Proofs.YtponbhhkccpbfaaDoor
open Go.RowKit Go.Lib Go.Shelf
abbrev wv (x : Wd) : Value := .agg #[.int .i64 x.1, .int .i64 x.2]
theorem tmany_nil (w : World) : Calls Tryd.prog 17 #[.pointer none] w fun e w' => e = .returned (.int .i64 0) ∧ w' = w := by
  have cV := tvalid_nil w
  go_enter Tryd.func17, Tryd.ntmps17
  go_wp2_with (go_at_call 37; ((with_reducible refine cV.mono ?_); rintro e w' ⟨rfl, rfl⟩))
  go_ret
  exact ⟨rfl, rfl⟩
theorem tcopy_nil (w : World) : Calls Tryd.prog 20 #[.pointer none] w fun e w' => e = .returned (.pointer none) ∧ w' = w := by
  have cV := tvalid_nil w
  go_enter Tryd.func20, Tryd.ntmps20
  go_wp2_with (go_at_call 37; ((with_reducible refine cV.mono ?_); rintro e w' ⟨rfl, rfl⟩))
  go_ret
  exact ⟨rfl, rfl⟩
theorem tintern_nil (s : ByteArray) (w : World) : Calls Tryd.prog 13 #[.pointer none, .string s] w fun e w' => e = .returned (.tuple #[.int .i64 0, .int .i64 1]) ∧ w' = w := by
  have cV := tvalid_nil w
  go_enter Tryd.func13, Tryd.ntmps13
  go_wp2_with (go_at_call 37; ((with_reducible refine cV.mono ?_); rintro e w' ⟨rfl, rfl⟩))
  go_ret2
  exact ⟨rfl, rfl⟩
set_option maxHeartbeats 1000000 in
theorem name_no {w : World} {tb : Nat} {G : Nat → Nat} {m : Tb} (h : TableAt w tb G m) (hm : 0 < m.syms.length) (i : Int) (hi : i < 0 ∨ (m.syms.length : Int) ≤ i) :
    Calls Tryd.prog 12 #[hptr tb, .int .i64 i] w fun e w' => e = .returned (.tuple #[.string ⟨#[]⟩, .bool false]) ∧ w' = w := by
  obtain ⟨a, c, c0⟩ := h.row
  have cV := h.valid hm
  have cA := at_no tb m.syms.length c a i w hi c0
  clear h hm hi
  generalize m.syms.length = n at *
  go_enter Tryd.func12, Tryd.ntmps12
  go_wp2_with (first
    | (go_at_call 37; ((with_reducible refine cV.mono ?_); rintro e w' ⟨rfl, rfl⟩))
    | (go_at_call 38; ((with_reducible refine cA.mono ?_); rintro e w' ⟨rfl, rfl⟩)))
  go_ret2
  exact ⟨rfl, rfl⟩
theorem checkf_nil (i : Int) (w : World) : Calls Tryd.prog 44 #[.pointer none, .int .i64 i] w fun e w' => e = .returned (.int .i64 1) ∧ w' = w := by
  have cV := tvalid_nil w
  go_enter Tryd.func44, Tryd.ntmps44
  go_wp2_with (go_at_call 37; ((with_reducible refine cV.mono ?_); rintro e w' ⟨rfl, rfl⟩))
  go_ret
  exact ⟨rfl, rfl⟩
theorem checkf_no {w : World} {tb : Nat} {G : Nat → Nat} {m : Tb} (h : TableAt w tb G m) (hm : 0 < m.syms.length) (i : Int) (hi : i < 0 ∨ (m.syms.length : Int) ≤ i) :
    Calls Tryd.prog 44 #[hptr tb, .int .i64 i] w fun e w' => e = .returned (.int .i64 8) ∧ w' = w := by
  obtain ⟨a, c, c0⟩ := h.row
  have cV := h.valid hm
  have cA := at_no tb m.syms.length c a i w hi c0
  clear h hm hi
  generalize m.syms.length = n at *
  go_enter Tryd.func44, Tryd.ntmps44
  go_wp2_with (first
    | (go_at_call 37; ((with_reducible refine cV.mono ?_); rintro e w' ⟨rfl, rfl⟩))
    | (go_at_call 38; ((with_reducible refine cA.mono ?_); rintro e w' ⟨rfl, rfl⟩)))
  go_ret
  exact ⟨rfl, rfl⟩
theorem checkf_t {w : World} {tb : Nat} {G : Nat → Nat} {m : Tb} (h : TableAt w tb G m) (hm : 1 < m.syms.length) :
    Calls Tryd.prog 44 #[hptr tb, .int .i64 1] w fun e w' => e = .returned (.int .i64 10) ∧ w' = w := by
  obtain ⟨g, c, c0, hi, r1, r2⟩ := h.sym (List.getElem?_eq_getElem hm)
  have cV := h.valid (by omega)
  have cA : Calls Tryd.prog 38 #[hptr tb, .int .i64 1] w fun e w' => e = .returned (.pointer (some ⟨g, 6, none⟩)) ∧ w' = w := at_yes tb m.syms.length c g 1 w hi c0
  clear r1 r2 hi
  clear h hm
  generalize m.syms.length = n at *
  go_enter Tryd.func44, Tryd.ntmps44
  go_wp2_with (first
    | (go_at_call 37; ((with_reducible refine cV.mono ?_); rintro e w' ⟨rfl, rfl⟩))
    | (go_at_call 38; ((with_reducible refine cA.mono ?_); rintro e w' ⟨rfl, rfl⟩)))
  go_ret
  exact ⟨rfl, rfl⟩
theorem setf_err (t : Value) (i : Int) (x : Wd) (er : Int) (w : World) (he : (er != 0) = true) (cK : ∀ W, Below w.heap.size w W → Calls Tryd.prog 44 #[t, .int .i64 i] W fun e w' => e = .returned (.int .i64 er) ∧ w' = W) :
    Calls Tryd.prog 18 #[t, .int .i64 i, wv x] w fun e w' => e = .returned (.int .i64 er) ∧ Below w.heap.size w w' := by
  have hb := (Below.refl w.heap.size w).alloc (Nat.le_refl _) (.cells #[.int .i64 x.1, .int .i64 x.2] 37)
  have CK := Lib.hid (cK _ hb)
  have HB := Lib.hid hb
  clear cK hb
  go_enter Tryd.func18, Tryd.ntmps18
  go_wp2_with fail
  refine CK.out.mono ?_
  rintro e w' ⟨rfl, rfl⟩
  go_wp2
  go_ret
  exact ⟨rfl, HB.out⟩
theorem alloc_two (w : World) (a b : Value) (u v : Value) (T : TypeId) : (((w.alloc (.cells #[a, b] T)).setCell ⟨w.heap.size, 0, none⟩ u).setCell ⟨w.heap.size, 1, none⟩ v).heap[w.heap.size]? = some (.cells #[u, v] T (0, 0)) := by
  have h1 := setCell_at (i := 0) (alloc_at w (.cells #[a, b] T)) u
  have h2 := setCell_at (i := 1) h1 v
  simpa using h2
set_option maxHeartbeats 4000000 in
set_option maxRecDepth 20000 in
theorem fixed_any (w : World) : Calls Tryd.prog 11 #[] w fun e w' => e = .returned (.slice (some ⟨w.heap.size, 0, none⟩) 62 62) ∧ w' = w.alloc (.cells (fixedN.map Value.string).toArray 9) := by
  go_enter Tryd.func11, Tryd.ntmps11
  go_wp2
  go_ret
  exact ⟨rfl, rfl⟩
/-- s, n times. -/
def rpt (s : ByteArray) (n : Nat) : ByteArray := ⟨((List.replicate n s.data.toList).flatten).toArray⟩
theorem rpt_list (s : ByteArray) (n : Nat) : (rpt s n).data.toList = (List.replicate n s.data.toList).flatten := by simp [rpt]
theorem rep_double (l : List UInt8) (k : Nat) : (List.replicate k (l ++ l)).flatten = (List.replicate (2 * k) l).flatten := by
  induction k with
  | zero => rfl
  | succ k ih => rw [List.replicate_succ, List.flatten_cons, ih, show 2 * (k + 1) = 2 * k + 1 + 1 by omega, List.replicate_succ, List.replicate_succ, List.flatten_cons, List.flatten_cons, List.append_assoc]
theorem rep_odd (l : List UInt8) (k : Nat) : (List.replicate (2 * k + 1) l).flatten = l ++ (List.replicate k (l ++ l)).flatten := by
  rw [List.replicate_succ, List.flatten_cons, rep_double]
set_option maxHeartbeats 2000000 in
theorem times_any (s : ByteArray) (n : Nat) (w : World) (hb : n * s.size ≤ 4000) (hn : n ≤ 4000) : Calls Tryd.prog 16 #[.string s, .int .i64 n] w fun e w' => e = .returned (.string (rpt s n)) ∧ w' = w := by
  obtain ⟨T, hT⟩ : ∃ T, T = (List.replicate n s.data.toList).flatten := ⟨_, rfl⟩
  have hTl : T.length ≤ 4000 := by rw [hT]; simpa using hb
  have er : rpt s n = ⟨T.toArray⟩ := by unfold rpt; rw [hT]
  rw [er]
  have H := Lib.hid (And.intro hT hTl)
  clear hT hTl er hb
  go_enter Tryd.func16, Tryd.ntmps16
  go_wp2
  go_loopw [0, 1, 5] (fun sv nv ov wr => ∃ (s' o : ByteArray) (k : Nat), sv = .string s' ∧ nv = .int .i64 k ∧ ov = .string o ∧ wr = w ∧ k ≤ 4000 ∧ Hid (o.data.toList ++ (List.replicate k s'.data.toList).flatten = T)) (fun _ nv _ _ => (RowKit.intOf nv).toNat)
  case atStart => exact ⟨s, ⟨#[]⟩, n, rfl, rfl, rfl, rfl, hn, Lib.hid (by rw [H.out.1]; rfl)⟩
  case round =>
    obtain ⟨s', o, k, rfl, rfl, rfl, rfl, hk, HI⟩ := hrel
    have hlen := congrArg List.length HI.out
    simp only [List.length_append, List.length_flatten, List.map_replicate, List.sum_replicate_nat, Array.length_toList] at hlen
    have hTl := H.out.2
    by_cases h0 : 0 < k
    · have hs1 : s'.size ≤ 4000 := by
        have h1 : 1 * s'.data.size ≤ k * s'.data.size := Nat.mul_le_mul_right _ h0
        have h2 : s'.size = s'.data.size := rfl
        omega
      have ho1 : o.size ≤ 4000 := by
        have h2 : o.size = o.data.size := rfl
        omega
      have h0I : (0 : Int) < (k : Int) := by omega
      obtain ⟨j, hj⟩ : ∃ j, j = k / 2 := ⟨_, rfl⟩
      have hj4 : j ≤ 4000 := by omega
      have hq : (k : Int).tdiv 2 = (j : Int) := by rw [Int.tdiv_eq_ediv_of_nonneg (by omega)]; omega
      by_cases hodd : k % 2 = 1
      · have hr : (k : Int).tmod 2 = 1 := by rw [Int.tmod_eq_emod_of_nonneg (by omega)]; omega
        have hx : (o ++ s').data.toList ++ (List.replicate j (s' ++ s').data.toList).flatten = T := by
          rw [← HI.out, show k = 2 * j + 1 by omega, rep_odd]
          simp
        have HX := Lib.hid hx
        have HJ := Lib.hid hj
        clear hx hj hlen hodd
        go_wp2
        go_roundw
        case rel => exact ⟨s' ++ s', o ++ s', j, rfl, by go_num, rfl, trivial, by have := HJ.out; omega, HX⟩
        case measure => have := HJ.out; simp [RowKit.intOf]; omega
      · have hr : (k : Int).tmod 2 = 0 := by rw [Int.tmod_eq_emod_of_nonneg (by omega)]; omega
        have hx : o.data.toList ++ (List.replicate j (s' ++ s').data.toList).flatten = T := by
          rw [← HI.out, show k = 2 * j by omega, ← rep_double]
          simp
        have HX := Lib.hid hx
        have HJ := Lib.hid hj
        clear hx hj hlen hodd
        go_wp2
        go_roundw
        case rel => exact ⟨s' ++ s', o, j, rfl, by go_num, rfl, trivial, by have := HJ.out; omega, HX⟩
        case measure => have := HJ.out; simp [RowKit.intOf]; omega
    · have hk0 : k = 0 := by omega
      subst hk0
      have hx : o = ⟨T.toArray⟩ := by
        have h1 := HI.out
        simp at h1
        apply ByteArray.ext
        rw [← h1]
      clear hlen hk
      subst hx
      go_wp2
      go_ret
      exact ⟨rfl, rfl⟩
end Go.Proofs.YtponbhhkccpbfaaDoor
