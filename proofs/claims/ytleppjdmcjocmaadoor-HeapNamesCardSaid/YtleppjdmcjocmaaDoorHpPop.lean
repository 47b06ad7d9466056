/- The smallest free number is taken. -/
import Derived.Test.YtleppjdmcjocmaaDoorHpDown
namespace Go.Proofs.YtleppjdmcjocmaaDoor
open Go.RowKit Go.Lib
/-- Two numbers of the row change their places, or one stays. -/
theorem swap_row (g cap i j : Nat) (l : List Int) (G : Nat → Nat) (w : World) (hi : i < l.length) (hj : j < l.length) (hr : Row w G 3 3 1 (.slice (some ⟨g, 0, none⟩) l.length cap) l.length (ints l)) :
    Calls Tryd.prog 83 #[.slice (some ⟨g, 0, none⟩) l.length cap, .int .i64 i, .int .i64 j] w fun e w' => e = .returned (.tuple #[]) ∧ Keeps (fun k => if k = g then 1 else 0) w w' ∧ w'.heap.size = w.heap.size ∧
      Row w' G 3 3 1 (.slice (some ⟨g, 0, none⟩) l.length cap) l.length (ints (swapL l i j)) := by
  obtain ⟨cur, kg, hcell, _⟩ := hr.ints_at
  by_cases hij : i = j
  · subst hij
    refine (swap_eq g _ cap i 3 cur _ w hi kg (hcell i hi)).mono ?_
    rintro e w' ⟨he, hs⟩
    have e1 : swapL l i i = l := by
      unfold swapL
      rw [List.set_set]
      apply List.ext_getElem?
      intro k
      by_cases hk : i = k
      · subst hk; rw [List.getElem?_set_self hi]; simp [List.getElem?_eq_getElem hi]
      · rw [List.getElem?_set_ne hk]
    rw [e1]
    refine ⟨he, ⟨hs.os, hs.tape, hs.output, Nat.le_of_eq hs.size.symm, fun k hk hz => hs.block k (fun e => by simp [e] at hz)⟩, hs.size, ⟨own_same hr.own (fun k hk => ?_), hr.lab⟩⟩
    cases hk
    exact hs.row.trans kg.symm
  · refine (swap_ne g _ cap i j 3 cur _ _ w hi hj hij kg (hcell i hi) (hcell j hj)).mono ?_
    rintro e w' ⟨he, hs⟩
    exact ⟨he, ⟨hs.os, hs.tape, hs.output, Nat.le_of_eq hs.size.symm, fun k hk hz => hs.block k (fun e => by simp [e] at hz)⟩, hs.size, hr.swapped kg hs⟩
set_option maxHeartbeats 2000000 in
set_option maxRecDepth 20000 in
theorem npop_any (hb g cap n : Nat) (x : Int) (lim vo st : Value) (w : World) (hh : w.heap[hb]? = some (.cells #[lim, vo, .slice (some ⟨g, 0, none⟩) (n + 1) cap, st] 67 (0, 0))) (hn : n ≤ 100000) (hcap : n + 1 ≤ cap) (cx : w.cell? ⟨g, n, none⟩ = some (.int .i64 x)) :
    Calls Tryd.prog 92 #[nptr hb] w fun e w' => e = .returned (.iface 3 (.int .i64 x)) ∧ w' = w.setCell ⟨hb, 2, none⟩ (.slice (some ⟨g, 0, none⟩) n cap) := by
  have c2 : w.cell? ⟨hb, 2, none⟩ = some (.slice (some ⟨g, 0, none⟩) (n + 1) cap) := cell_at hh
  have f2 : w.frozen? ⟨hb, 2, none⟩ = false := frozen_at hh
  clear hh
  go_enter Tryd.func92, Tryd.ntmps92
  go_wp2
  go_ret
  exact ⟨rfl, rfl⟩
/-- What is left when the smallest is taken, and what is taken. -/
def restL (l : List Int) : List Int := (downL (swapL l 0 (l.length - 1)) 0 (l.length - 1)).take (l.length - 1)
def leastL (l : List Int) : Int := (downL (swapL l 0 (l.length - 1)) 0 (l.length - 1)).getD (l.length - 1) 0
theorem restL_length (l : List Int) : (restL l).length = l.length - 1 := by simp [restL, downL_length, swapL_length]
theorem leastL_perm (l : List Int) (h : 0 < l.length) : (restL l ++ [leastL l]).Perm l := by
  have h1 : (downL (swapL l 0 (l.length - 1)) 0 (l.length - 1)).length = l.length - 1 + 1 := by rw [downL_length, swapL_length]; omega
  have h2 : restL l ++ [leastL l] = downL (swapL l 0 (l.length - 1)) 0 (l.length - 1) := by
    unfold restL leastL
    generalize downL (swapL l 0 (l.length - 1)) 0 (l.length - 1) = d at h1 ⊢
    generalize l.length - 1 = n at h1 ⊢
    have h3 := List.take_append_drop n d
    have h4 : d.drop n = [d.getD n 0] := by
      rw [List.drop_eq_getElem_cons (by omega), List.drop_eq_nil_of_le (by omega)]
      simp [List.getD_eq_getElem?_getD, List.getElem?_eq_getElem (show n < d.length by omega)]
    rw [← h4]
    exact h3
  rw [h2]
  exact (downL_perm _ _ _ (by rw [swapL_length]; omega)).trans (swapL_perm l _ _ h (by omega))
/-- What Pop leaves. -/
structure Popped (w w' : World) (hb : Nat) (G : Nat → Nat) (lim vo st : Value) (l : List Int) : Prop where
  os : w'.os = w.os
  tape : w'.tape = w.tape
  output : w'.output = w.output
  size : w'.heap.size = w.heap.size
  block : ∀ k, G k ≠ 1 → G k ≠ 3 → w'.heap[k]? = w.heap[k]?
  lies : ∃ g cap, w'.heap[hb]? = some (.cells #[lim, vo, .slice (some ⟨g, 0, none⟩) l.length cap, st] 67 (0, 0)) ∧ g ≠ hb ∧ Row w' G 3 3 1 (.slice (some ⟨g, 0, none⟩) l.length cap) l.length (ints l)
set_option maxHeartbeats 4000000 in
set_option maxRecDepth 20000 in
theorem hpop_any (hb : Nat) (l : List Int) (lim vo vf st : Value) (G : Nat → Nat) (w : World) (h0 : 0 < l.length) (hl : l.length ≤ 65536) (hh : w.heap[hb]? = some (.cells #[lim, vo, vf, st] 67 (0, 0))) (hG : G hb = 1)
    (hr : Row w G 3 3 1 vf l.length (ints l)) :
    Calls Tryd.prog 62 #[nface hb] w fun e w' => e = .returned (.iface 3 (.int .i64 (leastL l))) ∧ Popped w w' hb G lim vo st (restL l) := by
  obtain ⟨n, hn⟩ : ∃ n, l.length = n + 1 := ⟨l.length - 1, by omega⟩
  obtain ⟨g, cap, _, rfl, lg, _, hcap, _⟩ := hr.at (by omega)
  have hne : g ≠ hb := fun e => by rw [e, hG] at lg; omega
  have hv : w.cell? ⟨hb, 2, none⟩ = some (.slice (some ⟨g, 0, none⟩) l.length cap) := cell_at hh
  have hmL := mt_len hv
  have hmS := mt_swap hv
  have hmp := mt_pop hb
  rw [hn] at hmL hmS
  have HS := swap_row g cap 0 n l G w (by omega) (by omega) hr
  rw [show ((0 : Nat) : Int) = 0 from rfl] at HS
  rw [hn] at HS
  have CS := Lib.hid HS
  have H := Lib.hid (And.intro hh (And.intro hne (And.intro lg (And.intro hn hG))))
  have hn2 : n ≤ 65536 := by omega
  rw [hn] at hcap
  clear HS hh hr hv lg
  go_enter Tryd.func62, Tryd.ntmps62
  go_wp2_with fail
  refine (len_any _ _ _ _).mono ?_
  rintro e w1' ⟨rfl, hw⟩
  obtain rfl : _ = w1' := hw.symm
  clear hw
  go_wp2_with fail
  refine CS.out.mono ?_
  rintro e w2 ⟨rfl, hk2, hz2, hr2⟩
  have hbl := lt_at H.out.1
  have hh2 := (hk2.block hb hbl (if_neg (Ne.symm H.out.2.1))).trans H.out.1
  have hls : (swapL l 0 n).length = n + 1 := by rw [swapL_length, hn]
  have hv2 : w2.cell? ⟨hb, 2, none⟩ = some (.slice (some ⟨g, 0, none⟩) (swapL l 0 n).length cap) := by rw [hls, ← hn]; exact cell_at hh2
  rw [← hls] at hr2
  have cD := down_any hb g cap 0 n (swapL l 0 n) G w2 (by omega) (by omega) (by omega) H.out.2.1 (by omega) hv2 hr2
  rw [show ((0 : Nat) : Int) = 0 from rfl] at cD
  have CD := Lib.hid cD
  have H2 := Lib.hid (And.intro hk2 (And.intro hz2 (And.intro hh2 hls)))
  clear hk2 hz2 hh2 hv2 hr2 cD hls CS hmL hmS
  go_wp2_with fail
  refine CD.out.mono ?_
  rintro e w3 ⟨⟨b, rfl⟩, hk3, hz3, hr3⟩
  have hbl : hb < w2.heap.size := lt_at H2.out.2.2.1
  have hh3 := (hk3.block hb hbl (if_neg (Ne.symm H.out.2.1))).trans H2.out.2.2.1
  have hdl : (downL (swapL l 0 n) 0 n).length = n + 1 := by rw [downL_length]; exact H2.out.2.2.2
  have hnl : l.length - 1 = n := by rw [hn]; rfl
  have hle : leastL l = (downL (swapL l 0 n) 0 n).getD n 0 := by unfold leastL; rw [hnl]
  have hre : restL l = (downL (swapL l 0 n) 0 n).take n := by unfold restL; rw [hnl]
  have hrl : (restL l).length = n := by rw [restL_length, hnl]
  rw [H2.out.2.2.2] at hr3
  have cx : w3.cell? ⟨g, n, none⟩ = some (.int .i64 (leastL l)) := by
    rw [hle]
    exact hr3.cell (by simp [ints, hdl])
  rw [H.out.2.2.2.1] at hh3
  have cP := npop_any hb g cap n (leastL l) lim vo st w3 hh3 (by omega) hcap cx
  have CP := Lib.hid cP
  have H3 := Lib.hid (And.intro hk3 (And.intro hz3 (And.intro hr3 (And.intro hh3 (And.intro hre (And.intro hrl hdl))))))
  clear hk3 hz3 hr3 hh3 cP cx hle hre hrl hnl hdl CD
  go_wp2_with (go_at_call 92; refine CP.out.mono ?_; rintro e w4 ⟨rfl, hw4⟩; have H4 := Lib.hid hw4; clear hw4)
  go_ret
  obtain ⟨hk3, hz3, hr3, hh3, hre, hrl, hdl⟩ := H3.out
  have hk2 := H2.out.1
  have hw4 := H4.out
  have hG := H.out.2.2.2.2
  have hblk : ∀ k, G k ≠ 1 → G k ≠ 3 → w4.heap[k]? = w.heap[k]? := fun k n1 n3 => by
    have hkg : k ≠ g := fun e => n3 (e ▸ H.out.2.2.1)
    have hkh : k ≠ hb := fun e => n1 (e ▸ hG)
    rw [hw4, setCell_off _ hkh]
    by_cases hk : k < w.heap.size
    · exact (hk3.block k (by rw [H2.out.2.1]; exact hk) (if_neg hkg)).trans (hk2.block k hk (if_neg hkg))
    · rw [Array.getElem?_eq_none (by rw [hz3, H2.out.2.1]; omega), Array.getElem?_eq_none (by omega)]
  refine ⟨rfl, ⟨by rw [hw4]; exact hk3.os.trans hk2.os, by rw [hw4]; exact hk3.tape.trans hk2.tape, by rw [hw4]; exact hk3.output.trans hk2.output, by rw [hw4]; simp [World.setCell]; rw [hz3, H2.out.2.1], hblk, g, cap, ?_, H.out.2.1, ?_⟩⟩
  · rw [hw4, hrl]
    have := setCell_at (i := 2) hh3 (.slice (some ⟨g, 0, none⟩) n cap)
    simpa using this
  · rw [hrl, hre]
    obtain ⟨⟨h1, h2⟩, h3⟩ := hr3
    rcases h2 with ⟨e, _⟩ | ⟨g', cap', cur, e, _, hh, hnc, hcm, hcs, htk⟩
    · cases e
    cases e
    refine ⟨⟨by simp [ints, hdl], .inr ⟨g, cap, cur, rfl, Nat.zero_le _, ?_, by omega, hcm, hcs, ?_⟩⟩, fun k hk => by cases hk; exact H.out.2.2.1⟩
    · rw [hw4, setCell_off _ H.out.2.1]; exact hh
    · have e2 : ints ((downL (swapL l 0 n) 0 n).take n) = (ints (downL (swapL l 0 n) 0 n)).take n := by simp [ints]
      rw [e2, ← htk, List.take_take]
      congr 1
      omega
end Go.Proofs.YtleppjdmcjocmaaDoor
