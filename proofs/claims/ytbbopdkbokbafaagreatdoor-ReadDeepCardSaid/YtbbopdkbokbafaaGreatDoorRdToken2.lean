/- The contract of the reader's token. Conditions: unicode/utf8's two tables; strconv.ErrRange holds an error, or nil. -/
import Derived.Test.YtbbopdkbokbafaaGreatDoorRdToken
namespace Go.Proofs.YtbbopdkbokbafaaGreatDoor
open Go.RowKit Go.Lib
theorem tokG_isZ (L : List Int) (hz : L.all isZ = true) : ∀ (n p : Nat) (acc : List Int) (pl : Bool) (l : List Int) (b : Bool) (q : Nat), acc.all isZ = true → p ≤ L.length → tokG L n p acc pl = .ok (l, b) q → l.all isZ = true ∧ l.length + p ≤ acc.length + q ∧ q ≤ L.length
  | 0, p, acc, pl, l, b, q, ha, hp, h => by cases h
  | n + 1, p, acc, pl, l, b, q, ha, hp, h => by
    unfold tokG at h
    by_cases he : ends (ch L p) = true
    · rw [if_pos he] at h
      cases h
      exact ⟨ha, by omega, hp⟩
    · rw [if_neg he] at h
      have hc : ch L p ≠ -1 := fun e => he (by rw [e]; rfl)
      by_cases hb : ch L p = 92
      · rw [if_pos hb] at h
        by_cases hn : ch L (p + 1) = -1
        · rw [if_pos hn] at h; cases h
        · rw [if_neg hn] at h
          have := tokG_isZ L hz n _ _ _ _ _ _ (by rw [List.all_append, ha]; simp [ch_isZ hz hn]) (ch_lt hn) h
          simp at this
          exact ⟨by simpa using this.1, by omega, this.2.2⟩
      · rw [if_neg hb] at h
        have := tokG_isZ L hz n _ _ _ _ _ _ (by rw [List.all_append, ha]; simp [ch_isZ hz hc]) (ch_lt hc) h
        simp at this
        exact ⟨by simpa using this.1, by omega, this.2.2⟩
theorem enc_dot {l : List Int} (hz : l.all isZ = true) : encD l = [46] ↔ l = [46] := by
  constructor
  · intro h
    have := runes_encD' l hz
    rw [h] at this
    rw [← this]
    decide +kernel
  · intro h; subst h; rfl
section
variable {w0 w : World} {r : Rd} {F : Nat → Nat} {s : Rs} {o : Out Wd}
set_option maxHeartbeats 1000000 in
theorem token_dot (c3 : (wz w).cell? ⟨r.pb, 3, none⟩ = some (.int .i64 s.pos)) (nm : ByteArray) (q : Nat) (cC : Calls Tryz.prog 167 #[rp r] (wz w) fun e w' => e = .returned (.tuple #[.string nm, .bool true]) ∧ Mv w0 (wz w) w' r F { s with pos := q }) (hdt : (nm.toList == [46]) = true) :
    Calls Tryz.prog 114 #[rp r] w fun e w' => e = Panics 5 s.pos ∧ BadR w0 w w' r F s := by
  go_enter Tryz.func114, Tryz.ntmps114
  go_wp2_with fail
  refine cC.mono ?_
  rintro e W ⟨rfl, hw⟩
  have HW := Lib.hid hw
  clear hw cC
  go_wp2_with fail
  refine (malformed_any s.pos _).mono ?_
  rintro e W3 ⟨rfl, hb⟩
  have HB := Lib.hid hb
  clear hb
  go_wp2
  exact ⟨rfl, rfl, BadR.wrap (s1 := s) (HW.out.bad HB.out rfl rfl)⟩
set_option maxHeartbeats 1000000 in
theorem token_int (H : Hid (RdAt w0 w r F s)) (c3 : (wz w).cell? ⟨r.pb, 3, none⟩ = some (.int .i64 s.pos)) (nm : ByteArray) (q : Nat) (cC : Calls Tryz.prog 167 #[rp r] (wz w) fun e w' => e = .returned (.tuple #[.string nm, .bool true]) ∧ Mv w0 (wz w) w' r F { s with pos := q }) (hdt : (nm.toList == [46]) = false) (v : Int)
    (cI : ∀ W, Calls Tryz.prog 169 #[.string nm] W fun e w' => e = .returned (.bool true) ∧ Below W.heap.size W w')
    (cV : ∀ W, Below w0.heap.size w0 W → Calls Tryz.prog 171 #[.string nm, .int .i64 s.pos] W fun e w' => e = .returned (.int .i64 v) ∧ Below W.heap.size W w') :
    Calls Tryz.prog 114 #[rp r] w fun e w' => e = .returned (wv (0, v)) ∧ WentR w0 w w' r F { s with pos := q } := by
  have HV := Lib.hid cV
  clear cV
  go_enter Tryz.func114, Tryz.ntmps114
  go_wp2_with fail
  refine cC.mono ?_
  rintro e W ⟨rfl, hw⟩
  have HW := Lib.hid hw
  clear hw cC
  go_wp2_with (go_at_call 169; ((with_reducible refine (cI _).mono ?_); rintro e W2 ⟨rfl, hb2⟩; have HW2 := Lib.hid (HW.out.junk hb2); clear hb2))
  refine (HV.out _ HW2.out.rd.ht.below).mono ?_
  rintro e W3 ⟨rfl, hb3⟩
  have HW3 := Lib.hid (HW2.out.junk hb3)
  clear hb3
  go_wp2_with fail
  refine (integer_any v _).mono ?_
  rintro e W4 ⟨rfl, hb4⟩
  have HW4 := Lib.hid (HW3.out.junk hb4)
  clear hb4
  have k0 := HW4.out.went.place H.out (wz_at w)
  have d0 : W4.cell? ⟨w.heap.size, 0, none⟩ = some (.int .i64 0) := cell_at k0
  have d1 : W4.cell? ⟨w.heap.size, 1, none⟩ = some (.int .i64 0) := cell_at k0
  have e0 : W4.frozen? ⟨w.heap.size, 0, none⟩ = false := frozen_at k0
  have e1 : W4.frozen? ⟨w.heap.size, 1, none⟩ = false := frozen_at k0
  clear k0
  go_wp2
  refine bodyPost_ret (v := wv (0, v)) ?_ rfl ⟨rfl, HW4.out.went.fill H.out _ _⟩
  simp [results, Tryz.results114, go_sem, d0, d1]
set_option maxHeartbeats 1000000 in
theorem token_out (c3 : (wz w).cell? ⟨r.pb, 3, none⟩ = some (.int .i64 s.pos)) (nm : ByteArray) (q : Nat) (cC : Calls Tryz.prog 167 #[rp r] (wz w) fun e w' => e = .returned (.tuple #[.string nm, .bool true]) ∧ Mv w0 (wz w) w' r F { s with pos := q }) (hdt : (nm.toList == [46]) = false)
    (cI : ∀ W, Calls Tryz.prog 169 #[.string nm] W fun e w' => e = .returned (.bool true) ∧ Below W.heap.size W w')
    (cV : ∀ W, Below w0.heap.size w0 W → Calls Tryz.prog 171 #[.string nm, .int .i64 s.pos] W fun e w' => e = Panics 15 s.pos ∧ Below W.heap.size W w') :
    Calls Tryz.prog 114 #[rp r] w fun e w' => e = Panics 15 s.pos ∧ BadR w0 w w' r F s := by
  have HV := Lib.hid cV
  clear cV
  go_enter Tryz.func114, Tryz.ntmps114
  go_wp2_with fail
  refine cC.mono ?_
  rintro e W ⟨rfl, hw⟩
  have HW := Lib.hid hw
  clear hw cC
  go_wp2_with (go_at_call 169; ((with_reducible refine (cI _).mono ?_); rintro e W2 ⟨rfl, hb2⟩; have HW2 := Lib.hid (HW.out.junk hb2); clear hb2))
  refine (HV.out _ HW2.out.rd.ht.below).mono ?_
  rintro e W3 ⟨rfl, hb3⟩
  have HB3 := Lib.hid hb3
  clear hb3
  go_wp2
  exact ⟨rfl, rfl, BadR.wrap (s1 := s) (HW2.out.bad HB3.out rfl rfl)⟩
set_option maxHeartbeats 1000000 in
theorem token_sym (H : Hid (RdAt w0 w r F s)) (c3 : (wz w).cell? ⟨r.pb, 3, none⟩ = some (.int .i64 s.pos)) (nm : ByteArray) (q : Nat) (cC : Calls Tryz.prog 167 #[rp r] (wz w) fun e w' => e = .returned (.tuple #[.string nm, .bool true]) ∧ Mv w0 (wz w) w' r F { s with pos := q }) (hdt : (nm.toList == [46]) = false)
    (cI : ∀ W, Calls Tryz.prog 169 #[.string nm] W fun e w' => e = .returned (.bool false) ∧ Below W.heap.size W w')
    (ho : o ≠ .lost) (cS : ∀ W, RdAt w0 W r F { s with pos := q } → Calls Tryz.prog 172 #[rp r, .string nm, .int .i64 s.pos] W fun e w' => Does w0 W r F o e w') :
    Calls Tryz.prog 114 #[rp r] w fun e w' => Does w0 w r F o e w' := by
  have HS := Lib.hid cS
  clear cS
  go_enter Tryz.func114, Tryz.ntmps114
  go_wp2_with fail
  refine cC.mono ?_
  rintro e W ⟨rfl, hw⟩
  have HW := Lib.hid hw
  clear hw cC
  go_wp2_with (go_at_call 169; ((with_reducible refine (cI _).mono ?_); rintro e W2 ⟨rfl, hb2⟩; have HW2 := Lib.hid (HW.out.junk hb2); clear hb2))
  refine (HS.out _ HW2.out.rd).mono ?_
  intro e W3 hD
  cases o with
  | lost => exact absurd rfl ho
  | ok x s' =>
    obtain ⟨rfl, hw3⟩ := hD
    have HW3 := Lib.hid (HW2.out.after hw3)
    have k0 := HW3.out.place H.out (wz_at w)
    have d0 : W3.cell? ⟨w.heap.size, 0, none⟩ = some (.int .i64 0) := cell_at k0
    have d1 : W3.cell? ⟨w.heap.size, 1, none⟩ = some (.int .i64 0) := cell_at k0
    have e0 : W3.frozen? ⟨w.heap.size, 0, none⟩ = false := frozen_at k0
    have e1 : W3.frozen? ⟨w.heap.size, 1, none⟩ = false := frozen_at k0
    clear k0 hw3
    go_wp2
    refine bodyPost_ret (v := wv x) ?_ rfl ⟨rfl, HW3.out.fill H.out _ _⟩
    simp [results, Tryz.results114, go_sem, d0, d1]
  | bad er a s' =>
    obtain ⟨rfl, hw3⟩ := hD
    have HW3 := Lib.hid (HW2.out.after_bad hw3)
    clear hw3
    go_wp2
    exact ⟨rfl, rfl, HW3.out.wrap⟩
set_option maxHeartbeats 1000000 in
theorem token_esc (H : Hid (RdAt w0 w r F s)) (c3 : (wz w).cell? ⟨r.pb, 3, none⟩ = some (.int .i64 s.pos)) (nm : ByteArray) (q : Nat) (cC : Calls Tryz.prog 167 #[rp r] (wz w) fun e w' => e = .returned (.tuple #[.string nm, .bool false]) ∧ Mv w0 (wz w) w' r F { s with pos := q })
    (ho : o ≠ .lost) (cS : ∀ W, RdAt w0 W r F { s with pos := q } → Calls Tryz.prog 172 #[rp r, .string nm, .int .i64 s.pos] W fun e w' => Does w0 W r F o e w') :
    Calls Tryz.prog 114 #[rp r] w fun e w' => Does w0 w r F o e w' := by
  have HS := Lib.hid cS
  clear cS
  go_enter Tryz.func114, Tryz.ntmps114
  go_wp2_with fail
  refine cC.mono ?_
  rintro e W ⟨rfl, hw⟩
  have HW := Lib.hid hw
  clear hw cC
  go_wp2_with fail
  refine (HS.out _ HW.out.rd).mono ?_
  intro e W3 hD
  cases o with
  | lost => exact absurd rfl ho
  | ok x s' =>
    obtain ⟨rfl, hw3⟩ := hD
    have HW3 := Lib.hid (HW.out.after hw3)
    have k0 := HW3.out.place H.out (wz_at w)
    have d0 : W3.cell? ⟨w.heap.size, 0, none⟩ = some (.int .i64 0) := cell_at k0
    have d1 : W3.cell? ⟨w.heap.size, 1, none⟩ = some (.int .i64 0) := cell_at k0
    have e0 : W3.frozen? ⟨w.heap.size, 0, none⟩ = false := frozen_at k0
    have e1 : W3.frozen? ⟨w.heap.size, 1, none⟩ = false := frozen_at k0
    clear k0 hw3
    go_wp2
    refine bodyPost_ret (v := wv x) ?_ rfl ⟨rfl, HW3.out.fill H.out _ _⟩
    simp [results, Tryz.results114, go_sem, d0, d1]
  | bad er a s' =>
    obtain ⟨rfl, hw3⟩ := hD
    have HW3 := Lib.hid (HW.out.after_bad hw3)
    clear hw3
    go_wp2
    exact ⟨rfl, rfl, HW3.out.wrap⟩
theorem internO_some (s : Rs) (l : List Int) (st : Int) : internO s l st ≠ .lost := by
  unfold internO
  split <;> (intro e; cases e)
/-- A token. -/
theorem token_any (h : RdAt w0 w r F s) (hT : Tabs w0) (hE : Errs w0) (n : Nat) (hn : r.L.length + 1 ≤ n + s.pos) :
    Calls Tryz.prog 114 #[rp r] w fun e w' => Does w0 w r F (tokenO r.L n s) e w' := by
  have H := Lib.hid h
  have c3 : (wz w).cell? ⟨r.pb, 3, none⟩ = some (.int .i64 s.pos) := cell_at (h.junk (wz_below w)).own
  have cC := collect_any (h.junk (wz_below w)) n hn
  have hfi := tokG_fine r.L n s.pos [] true h.pos hn
  have hzz := fun l b q => tokG_isZ r.L h.fix.isz n s.pos [] true l b q rfl h.pos
  have hlen := h.fix.len
  unfold tokenO
  generalize tokG r.L n s.pos [] true = g at *
  cases g with
  | lost => exact hfi.elim
  | bad er a =>
    clear h hn hfi hzz
    go_enter Tryz.func114, Tryz.ntmps114
    go_wp2_with fail
    refine cC.mono ?_
    rintro e W ⟨rfl, hw⟩
    have HW := Lib.hid hw
    clear hw cC
    go_wp2
    exact ⟨rfl, rfl, HW.out.wrap⟩
  | ok x q =>
    obtain ⟨l, pl⟩ := x
    obtain ⟨z1, z2, z3⟩ := hzz l pl q rfl
    simp only [List.length_nil] at z2
    have hll : l.length ≤ 200000 := by omega
    have hsz : (nameOf l).size ≤ 1000000 := by have := encD_len l; simp only [nameOf, ByteArray.size, List.size_toArray]; omega
    have hdt : ((nameOf l).toList == [46]) = decide (l = [46]) := by
      rw [ByteArray.toList_eq]
      show (encD l == [46]) = _
      rw [Bool.eq_iff_iff, beq_iff_eq, decide_eq_true_iff]
      exact enc_dot z1
    have hin : intB (nameOf l).data.toList = isIntC l := int_enc l z1
    have cS : ∀ W, RdAt w0 W r F { s with pos := q } → Calls Tryz.prog 172 #[rp r, .string (nameOf l), .int .i64 s.pos] W fun e w' => Does w0 W r F (internO { s with pos := q } l s.pos) e w' := fun W hW => rintern_any hW hT l hll s.pos
    have hso := internO_some { s with pos := q } l s.pos
    have cI := fun W => isInteger_any (nameOf l) W hsz
    have cC2 : Calls Tryz.prog 167 #[rp r] (wz w) fun e w' => e = .returned (.tuple #[.string (nameOf l), .bool pl]) ∧ Mv w0 (wz w) w' r F { s with pos := q } := cC
    rw [hin] at cI
    simp only
    by_cases hd : pl = true ∧ l = [46]
    · rw [if_pos hd]
      obtain ⟨rfl, hl⟩ := hd
      refine (token_dot c3 _ q cC2 (by rw [hdt, decide_eq_true hl])).mono ?_
      rintro e w' ⟨rfl, hb⟩
      exact ⟨rfl, ⟨hb.keeps, hb.ht⟩⟩
    · rw [if_neg hd]
      by_cases hp : pl = true
      · subst hp
        have hdf : ((nameOf l).toList == [46]) = false := by rw [hdt]; exact decide_eq_false fun e => hd ⟨rfl, e⟩
        by_cases hi : isIntC l = true
        · rw [if_pos ⟨rfl, hi⟩]
          rw [hi] at cI
          have cV := fun W (hW : Below w0.heap.size w0 W) => valueOf_any l z1 hll hi s.pos W (hE.below hW (Nat.le_refl _))
          by_cases ho : intV l < -2305843009213693952 ∨ 2305843009213693951 < intV l
          · rw [if_pos ho]
            simp only [if_pos ho] at cV
            refine (token_out c3 _ q cC2 hdf cI cV).mono ?_
            rintro e w' ⟨rfl, hb⟩
            exact ⟨rfl, ⟨hb.keeps, hb.ht⟩⟩
          · rw [if_neg ho]
            simp only [if_neg ho] at cV
            exact token_int H c3 _ q cC2 hdf (intV l) cI cV
        · rw [if_neg fun e => hi e.2]
          have hi' : isIntC l = false := by simpa using hi
          rw [hi'] at cI
          exact token_sym H c3 _ q cC2 hdf cI hso cS
      · have hp' : pl = false := by simpa using hp
        subst hp'
        rw [if_neg fun e => hp e.1]
        exact token_esc H c3 _ q cC2 hso cS
end
end Go.Proofs.YtbbopdkbokbafaaGreatDoor
