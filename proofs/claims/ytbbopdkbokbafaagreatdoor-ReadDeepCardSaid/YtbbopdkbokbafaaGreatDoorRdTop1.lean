/- The contract of begin. Condition: unicode/utf8's two tables. -/
import Derived.Test.YtbbopdkbokbafaaGreatDoorRdTop0
namespace Go.Proofs.YtbbopdkbokbafaaGreatDoor
open Go.RowKit Go.Lib
theorem ht_limit {w0 w : World} {hb tb : Nat} {F : Nat → Nat} {h : Hp} {t : Tb} (H : HT w0 w hb tb F h t) : Calls Tryz.prog 109 #[hptr hb] w fun e w' => e = .returned (.int .i64 h.lim) ∧ w' = w := by
  obtain ⟨Gh, Gt, h1, _⟩ := H.lies
  obtain ⟨vo, vf, xs, q1, _⟩ := h1.lies
  exact limit_any hb h.lim w (by have := h1.ok.lim1; omega) (cell_at q1)
theorem ht_many {w0 w : World} {hb tb : Nat} {F : Nat → Nat} {h : Hp} {t : Tb} (H : HT w0 w hb tb F h t) : Calls Tryz.prog 36 #[hptr tb] w fun e w' => e = .returned (.int .i64 t.syms.length) ∧ w' = w := by
  obtain ⟨Gh, Gt, _, h2, _⟩ := H.lies
  exact h2.many H.many
set_option maxHeartbeats 1000000 in
theorem begin_bad {w0 w : World} {hb tb : Nat} {F : Nat → Nat} {h : Hp} {t : Tb} (H : HT w0 w hb tb F h t) (hT : Tabs w0) (x : ByteArray) (hx : x.size ≤ 100000) (hv : validD x.data.toList = false) :
    Calls Tryz.prog 63 #[hptr hb, hptr tb, .string x] w fun e w' => e = Panics 5 0 ∧ Below w.heap.size w w' := by
  have cL := ht_limit H
  have cM := ht_many H
  have cT := list_not x w hx (H.tabs hT) hv
  have h1 : ((h.lim : Int) == 0) = false := by obtain ⟨Gh, Gt, q, _⟩ := H.lies; rw [beq_eq_false_iff_ne]; have := q.ok.lim1; omega
  have h2 : ((t.syms.length : Int) == 0) = false := by rw [beq_eq_false_iff_ne]; have := H.many; omega
  generalize h.lim = lim at *
  generalize t.syms.length = mn at *
  clear H hv
  go_enter Tryz.func63, Tryz.ntmps63
  go_wp2_with fail
  refine cL.mono ?_
  rintro e w' ⟨rfl, rfl⟩
  go_wp2_with fail
  refine cM.mono ?_
  rintro e w' ⟨rfl, rfl⟩
  go_wp2_with fail
  refine cT.mono ?_
  rintro e W ⟨rfl, hb1⟩
  have HB := Lib.hid hb1
  clear hb1
  go_wp2_with fail
  refine (fault_any 5 0 _).mono ?_
  rintro e W2 ⟨rfl, hb2⟩
  have HB2 := Lib.hid hb2
  clear hb2
  go_wp2
  exact ⟨rfl, rfl, HB.out.trans (HB2.out.mono HB.out.size)⟩
set_option maxHeartbeats 1000000 in
theorem begin_ok {w0 w : World} {hb tb : Nat} {F : Nat → Nat} {h : Hp} {t : Tb} (H : HT w0 w hb tb F h t) (hT : Tabs w0) (x : ByteArray) (hx : x.size ≤ 100000) (hv : validD x.data.toList = true) :
    Calls Tryz.prog 63 #[hptr hb, hptr tb, .string x] w fun e w' => ∃ r : Rd, r.hb = hb ∧ r.tb = tb ∧ r.L = runesD x.data.toList ∧ e = .returned (rp r) ∧ Below w.heap.size w w' ∧ w.heap.size ≤ r.pb ∧ RdAt w0 w' r F ⟨h, t, 0, 0⟩ := by
  have cL := ht_limit H
  have cM := ht_many H
  have cT := list_valid x w hx (H.tabs hT) hv
  have hlen : (runesD x.data.toList).length ≤ 100000 := by rw [← runeCount_eq]; exact Nat.le_trans (runeCount_le x) hx
  have hz := runes_isZ x.data.toList
  have h1 : ((h.lim : Int) == 0) = false := by obtain ⟨Gh, Gt, q, _⟩ := H.lies; rw [beq_eq_false_iff_ne]; have := q.ok.lim1; omega
  have h2 : ((t.syms.length : Int) == 0) = false := by rw [beq_eq_false_iff_ne]; have := H.many; omega
  generalize runesD x.data.toList = L at *
  obtain ⟨lim, hlim⟩ : ∃ l, h.lim = l := ⟨_, rfl⟩
  obtain ⟨mn, hmn⟩ : ∃ l, t.syms.length = l := ⟨_, rfl⟩
  obtain ⟨n, hn⟩ : ∃ l, L.length = l := ⟨_, rfl⟩
  rw [hlim] at cL h1
  rw [hmn] at cM h2
  rw [hn] at cT
  have HH := Lib.hid (And.intro H (And.intro hlen (And.intro hz hn)))
  clear H hv hlen hz hlim hmn hn
  go_enter Tryz.func63, Tryz.ntmps63
  go_wp2_with fail
  refine cL.mono ?_
  rintro e w' ⟨rfl, rfl⟩
  go_wp2_with fail
  refine cM.mono ?_
  rintro e w' ⟨rfl, rfl⟩
  go_wp2_with fail
  refine cT.mono ?_
  rintro e W ⟨g, cap, rfl, hI, hb1⟩
  have HB := Lib.hid (And.intro hb1 hI)
  clear hb1 hI cT
  go_wp2_with fail
  refine (readers_any _).mono ?_
  rintro e W2 ⟨rfl, rfl⟩
  go_wp2
  obtain ⟨H, hlen, hz, hn⟩ := HH.out
  obtain ⟨hb1, hI⟩ := HB.out
  subst hn
  have hb2 : Below w'.heap.size w' (W.alloc (.map readersEs 11)) := hb1.alloc hb1.size _
  have hb3 := hb2.alloc hb2.size (.cells #[hptr hb, hptr tb, .slice (some ⟨g, 0, none⟩) L.length cap, .int .i64 0, .int .i64 0, .map (some W.heap.size)] 91)
  have hsz := hb1.size
  have hw0 := H.below.size
  have hz0 : ∀ k, w'.heap.size ≤ k → F k = 0 := H.new
  rcases hI.2 with ⟨h1, _⟩ | ⟨g', cap', cur, h1, hg, hh, hr1, hr2, hr3, hr4⟩
  · cases h1
  · cases h1
    have hgl := lt_at hh
    refine bodyPost_ret (results_tmp rfl _ _ _) rfl ⟨⟨W.heap.size + 1, hb, tb, g, cap, W.heap.size, L⟩, rfl, rfl, rfl, rfl, hb3, by show w'.heap.size ≤ W.heap.size + 1; omega, ⟨H.junk hb3, ⟨by show w0.heap.size ≤ W.heap.size + 1; omega, hz0 _ (by show w'.heap.size ≤ W.heap.size + 1; omega), hz0 _ hg, by show g ≠ W.heap.size + 1; omega, ⟨cur, ?_, ?_⟩, hz0 _ hsz, by show W.heap.size ≠ W.heap.size + 1; omega, ?_, hlen, hz⟩, ?_, Nat.zero_le _, Nat.zero_le _⟩⟩
    · show _ = _
      rw [Below.heap_alloc _ _ _ (by simp; omega), Below.heap_alloc _ _ _ hgl]
      exact hh
    · intro i u hu
      have hi : i < L.length := (List.getElem?_eq_some_iff.1 hu).1
      have h5 : (cur.toList.take (L.length * 1))[i]? = (L.map (Value.int .i64))[i]? := by rw [hr4]
      rw [List.getElem?_take_of_lt (by omega), List.getElem?_map, hu] at h5
      simpa using h5
    · rw [Below.heap_alloc _ _ _ (by simp)]
      exact alloc_at W _
    · have := alloc_at (W.alloc (.map readersEs 11)) (.cells #[hptr hb, hptr tb, .slice (some ⟨g, 0, none⟩) L.length cap, .int .i64 0, .int .i64 0, .map (some W.heap.size)] 91)
      simpa using this
end Go.Proofs.YtbbopdkbokbafaaGreatDoor
