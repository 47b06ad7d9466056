/- The contracts of the reader's valueOf, intern and token. Conditions: unicode/utf8's two tables; strconv.ErrRange holds an error, or nil. -/
import Derived.Test.YtbbopdkbokbafaaGreatDoorRdInt
namespace Go.Proofs.YtbbopdkbokbafaaGreatDoor
open Go.RowKit Go.Lib
theorem parse_ok (s : ByteArray) (hs : s.size ≤ 1000000) (v : Int) (h : parseIntB 64 s.data.toList = .ok v) (w : World) :
    Calls Tryz.prog 230 #[.string s, .int .i64 10, .int .i64 64] w fun e w' => e = .returned (.tuple #[.int .i64 v, .nilIface]) ∧ Below w.heap.size w w' := by
  refine (Tryz.strconv_ParseInt_10_at64_ok s (by omega) v h w).mono ?_
  rintro e w' ⟨rfl, hw⟩
  refine ⟨rfl, ?_⟩
  rcases hw with rfl | ⟨t, rfl⟩
  · exact Below.refl _ _
  · exact Lib.bytesWorld_below _ _ _
theorem parse_range (s : ByteArray) (hs : s.size ≤ 1000000) (h : parseIntB 64 s.data.toList = .range) (w : World) (hE : Errs w) :
    Calls Tryz.prog 230 #[.string s, .int .i64 10, .int .i64 64] w fun e w' => ∃ v T p, e = .returned (.tuple #[.int .i64 v, .iface T p]) ∧ Below w.heap.size w w' := by
  obtain ⟨ev, h1, h2⟩ := hE
  refine (Tryz.strconv_ParseInt_10_at64_range s (by omega) h ev w h1 h2).mono ?_
  rintro e w' ⟨N, rfl, _, _, hb⟩
  exact ⟨_, _, _, rfl, hb⟩
theorem valueOf_ok (s : ByteArray) (hs : s.size ≤ 1000000) (v st : Int) (h : parseIntB 64 s.data.toList = .ok v) (h1 : ¬ v < -2305843009213693952) (h2 : ¬ 2305843009213693951 < v) (w : World) :
    Calls Tryz.prog 171 #[.string s, .int .i64 st] w fun e w' => e = .returned (.int .i64 v) ∧ Below w.heap.size w w' := by
  have cP := parse_ok s hs v h w
  clear h
  go_enter Tryz.func171, Tryz.ntmps171
  go_wp2_with fail
  refine cP.mono ?_
  rintro e W ⟨rfl, hb⟩
  have HB := Lib.hid hb
  clear hb cP
  go_wp2
  go_ret
  exact ⟨rfl, HB.out⟩
theorem valueOf_out (s : ByteArray) (hs : s.size ≤ 1000000) (v st : Int) (h : parseIntB 64 s.data.toList = .ok v) (h1 : v < -2305843009213693952 ∨ 2305843009213693951 < v) (w : World) :
    Calls Tryz.prog 171 #[.string s, .int .i64 st] w fun e w' => e = Panics 15 st ∧ Below w.heap.size w w' := by
  have cP := parse_ok s hs v h w
  have cF := fun W => fault_any 15 st W
  clear h
  go_enter Tryz.func171, Tryz.ntmps171
  go_wp2_with fail
  refine cP.mono ?_
  rintro e W ⟨rfl, hb⟩
  have HB := Lib.hid hb
  clear hb cP
  by_cases h2 : v < -2305843009213693952
  · clear h1
    go_wp2_with (go_at_call 66; ((with_reducible refine (cF _).mono ?_); rintro e W2 ⟨rfl, hb2⟩))
    exact ⟨rfl, rfl, HB.out.trans (hb2.mono HB.out.size)⟩
  · have h3 : 2305843009213693951 < v := by omega
    clear h1
    go_wp2_with (go_at_call 66; ((with_reducible refine (cF _).mono ?_); rintro e W2 ⟨rfl, hb2⟩))
    exact ⟨rfl, rfl, HB.out.trans (hb2.mono HB.out.size)⟩
theorem valueOf_range (s : ByteArray) (hs : s.size ≤ 1000000) (st : Int) (h : parseIntB 64 s.data.toList = .range) (w : World) (hE : Errs w) :
    Calls Tryz.prog 171 #[.string s, .int .i64 st] w fun e w' => e = Panics 15 st ∧ Below w.heap.size w w' := by
  have cP := parse_range s hs h w hE
  have cF := fun W => fault_any 15 st W
  clear h hE
  go_enter Tryz.func171, Tryz.ntmps171
  go_wp2_with fail
  refine cP.mono ?_
  rintro e W ⟨v, T, p, rfl, hb⟩
  have HB := Lib.hid hb
  clear hb cP
  go_wp2_with (go_at_call 66; ((with_reducible refine (cF _).mono ?_); rintro e W2 ⟨rfl, hb2⟩))
  exact ⟨rfl, rfl, HB.out.trans (hb2.mono HB.out.size)⟩
/-- What a token's integer comes to. -/
theorem valueOf_any (l : List Int) (hz : l.all isZ = true) (hl : l.length ≤ 200000) (hi : isIntC l = true) (st : Int) (w : World) (hE : Errs w) :
    Calls Tryz.prog 171 #[.string (nameOf l), .int .i64 st] w fun e w' => (if intV l < -2305843009213693952 ∨ 2305843009213693951 < intV l then e = Panics 15 st else e = .returned (.int .i64 (intV l))) ∧ Below w.heap.size w w' := by
  have hs : (nameOf l).size ≤ 1000000 := by have := encD_len l; simp only [nameOf, ByteArray.size, List.size_toArray]; omega
  have hd : (nameOf l).data.toList = encD l := rfl
  by_cases h : intV l < -2305843009213693952 ∨ 2305843009213693951 < intV l
  · simp only [if_pos h]
    rcases parse_int hz hi with h1 | ⟨h1, _⟩
    · exact valueOf_out _ hs _ st (hd ▸ h1) h w
    · exact valueOf_range _ hs st (hd ▸ h1) w hE
  · simp only [if_neg h]
    rcases parse_int hz hi with h1 | ⟨_, h2⟩
    · exact valueOf_ok _ hs _ st (hd ▸ h1) (by omega) (by omega) w
    · omega
/-- The world with a place for a word's result. -/
abbrev wz (w : World) : World := w.alloc (.cells #[.int .i64 0, .int .i64 0] 28)
theorem wz_below (w : World) : Below w.heap.size w (wz w) := (Below.refl _ _).alloc (Nat.le_refl _) _
theorem wz_at (w : World) : (wz w).heap[w.heap.size]? = some (.cells #[.int .i64 0, .int .i64 0] 28 (0, 0)) := alloc_at w _
section
variable {w0 w : World} {r : Rd} {F : Nat → Nat} {s : Rs}
/-- The result's place stands while the reader works. -/
theorem WentR.place {w1 w2 : World} {s1 : Rs} (H : RdAt w0 w r F s) (hw : WentR w0 w1 w2 r F s1) (h1 : w1.heap[w.heap.size]? = some (.cells #[.int .i64 0, .int .i64 0] 28 (0, 0))) : w2.heap[w.heap.size]? = some (.cells #[.int .i64 0, .int .i64 0] 28 (0, 0)) :=
  (hw.keeps.block _ (lt_at h1) (foot_zero.2 ⟨by have := H.lt; omega, H.ht.new _ (Nat.le_refl _)⟩)).trans h1
theorem WentR.junk {w1 w2 : World} {s1 : Rs} (h : WentR w0 w w1 r F s1) (hb : Below w1.heap.size w1 w2) : WentR w0 w w2 r F s1 := h.trans fun _ h1 => .of_below h1 hb
theorem WentR.wrap {w1 : World} {s1 : Rs} (h : WentR w0 (wz w) w1 r F s1) : WentR w0 w w1 r F s1 := by
  obtain ⟨hk, F', h1, h2⟩ := h
  have hz : w.heap.size < (wz w).heap.size := by simp
  exact ⟨(Keeps.of_below (G := fun k => if k = r.pb then 1 else F k) (wz_below w)).trans hk (fun _ _ e => e), F', h1, fun k hk2 => h2 k (by omega)⟩
theorem BadR.wrap {w1 : World} {s1 : Rs} (h : BadR w0 (wz w) w1 r F s1) : BadR w0 w w1 r F s1 := by
  obtain ⟨hk, F', h1, h2⟩ := h
  have hz : w.heap.size < (wz w).heap.size := by simp
  exact ⟨(Keeps.of_below (G := fun k => if k = r.pb then 1 else F k) (wz_below w)).trans hk (fun _ _ e => e), F', h1, fun k hk2 => h2 k (by omega)⟩
theorem Mv.after {w1 w2 : World} {s1 s2 : Rs} (m : Mv w0 w w1 r F s1) (k : WentR w0 w1 w2 r F s2) : WentR w0 w w2 r F s2 := by
  obtain ⟨kk, F2, q1, q2⟩ := k
  exact ⟨m.keeps.trans kk (fun _ _ e => e), F2, q1, fun i hi => q2 i (Nat.lt_of_lt_of_le hi m.keeps.size)⟩
theorem Mv.after_bad {w1 w2 : World} {s1 s2 : Rs} (m : Mv w0 w w1 r F s1) (k : BadR w0 w1 w2 r F s2) : BadR w0 w w2 r F s2 := by
  obtain ⟨kk, F2, q1, q2⟩ := k
  exact ⟨m.keeps.trans kk (fun _ _ e => e), F2, q1, fun i hi => q2 i (Nat.lt_of_lt_of_le hi m.keeps.size)⟩
/-- The result's place is written. -/
theorem WentR.fill {w1 : World} {s1 : Rs} (H : RdAt w0 w r F s) (h : WentR w0 (wz w) w1 r F s1) (u v : Value) : WentR w0 w ((w1.setCell ⟨w.heap.size, 0, none⟩ u).setCell ⟨w.heap.size, 1, none⟩ v) r F s1 := by
  obtain ⟨hk, F', h1, h2⟩ := h.wrap
  obtain ⟨_, F2, k1, k2⟩ := h
  have hz : w.heap.size < (wz w).heap.size := by simp
  have hN : F2 w.heap.size = 0 := (k2 _ hz).2 (H.ht.new _ (Nat.le_refl _))
  have hpb := H.lt
  obtain ⟨cur0, g0, _⟩ := H.fix.row
  have hg := lt_at g0
  have hr := lt_at H.fix.map
  have hw0 := H.ht.below.size
  have hof : ∀ k, k ≠ w.heap.size → ((w1.setCell ⟨w.heap.size, 0, none⟩ u).setCell ⟨w.heap.size, 1, none⟩ v).heap[k]? = w1.heap[k]? := fun k hk => by rw [setCell_off _ hk, setCell_off _ hk]
  obtain ⟨cur, q1, q2⟩ := k1.fix.row
  refine ⟨⟨hk.os, hk.tape, hk.output, by have := hk.size; simp [World.setCell]; omega, fun k hk' hz' => (hof k (by omega)).trans (hk.block k hk' hz')⟩, F2, ⟨k1.ht.keep ?_ fun k _ e => hof k fun e2 => e (by rw [e2]; exact hN), ⟨k1.fix.base, k1.fix.pb, k1.fix.g, k1.fix.gp, ⟨cur, (hof _ (by omega)).trans q1, q2⟩, k1.fix.rb, k1.fix.rp, (hof _ (by omega)).trans k1.fix.map, k1.fix.len, k1.fix.isz⟩, (hof _ (by omega)).trans k1.own, k1.pos, k1.opn⟩, fun k hk2 => k2 k (by omega)⟩
  exact ((k1.ht.below.setCell (p := ⟨w.heap.size, 0, none⟩) hw0 _).setCell (p := ⟨w.heap.size, 1, none⟩) hw0 _)
/-- A token on a reader: the symbol of a name. -/
theorem rintern_any (h : RdAt w0 w r F s) (hT : Tabs w0) (l : List Int) (hl : l.length ≤ 200000) (st : Int) :
    Calls Tryz.prog 172 #[rp r, .string (nameOf l), .int .i64 st] w fun e w' => Does w0 w r F (internO s l st) e w' := by
  have hs : (nameOf l).size ≤ 281474976710656 := by have := encD_len l; simp only [nameOf, ByteArray.size, List.size_toArray]; omega
  have c1 : (wz w).cell? ⟨r.pb, 1, none⟩ = some (hptr r.tb) := cell_at (h.junk (wz_below w)).own
  have cI := ht_intern (h.junk (wz_below w)).ht hT (nameOf l) hs
  have H := Lib.hid h
  unfold internO
  generalize s.t.intern (nameOf l) = g at *
  obtain ⟨n, er, t'⟩ := g
  simp only at cI ⊢
  by_cases he : er = 0
  · subst he
    rw [if_neg (by decide)]
    clear h hs
    go_enter Tryz.func172, Tryz.ntmps172
    go_wp2_with fail
    refine cI.mono ?_
    rintro e W ⟨rfl, hw⟩
    have HW := Lib.hid ((H.out.junk (wz_below w)).call hw)
    clear hw cI
    go_wp2_with fail
    refine (symbol_any n _).mono ?_
    rintro e W2 ⟨rfl, hb⟩
    have HB := Lib.hid hb
    have k0 := (hb.block _ (lt_at (HW.out.place H.out (wz_at w)))).trans (HW.out.place H.out (wz_at w))
    have d0 : W2.cell? ⟨w.heap.size, 0, none⟩ = some (.int .i64 0) := cell_at k0
    have d1 : W2.cell? ⟨w.heap.size, 1, none⟩ = some (.int .i64 0) := cell_at k0
    have e0 : W2.frozen? ⟨w.heap.size, 0, none⟩ = false := frozen_at k0
    have e1 : W2.frozen? ⟨w.heap.size, 1, none⟩ = false := frozen_at k0
    clear hb k0
    go_wp2
    refine bodyPost_ret (v := wv (1, n)) ?_ rfl ⟨rfl, (HW.out.junk HB.out).fill H.out _ _⟩
    simp [results, Tryz.results172, go_sem, d0, d1]
  · rw [if_pos (by simpa using he)]
    have he2 : (er != 0) = true := by simpa using he
    clear h hs
    go_enter Tryz.func172, Tryz.ntmps172
    go_wp2_with fail
    refine cI.mono ?_
    rintro e W ⟨rfl, hw⟩
    have HW := Lib.hid ((H.out.junk (wz_below w)).call hw)
    clear hw cI
    go_wp2_with fail
    refine (fault_any er st _).mono ?_
    rintro e W2 ⟨rfl, hb⟩
    have HB := Lib.hid hb
    clear hb
    go_wp2
    exact ⟨rfl, rfl, HW.out.wrap.bad.trans HB.out⟩
end
end Go.Proofs.YtbbopdkbokbafaaGreatDoor
