/- The contracts of Intern and Find. Condition of Intern: unicode/utf8's two tables hold what the program's text lays. -/
import Derived.Test.YtponbhhkccpbfaaDoorNmCalls
namespace Go.Proofs.YtponbhhkccpbfaaDoor
open Go.RowKit Go.Lib Go.Shelf
/-- The map of a table, and what it says of a name. -/
theorem TableAt.look {w : World} {tb : Nat} {G : Nat → Nat} {m : Tb} (h : TableAt w tb G m) : ∃ mb, w.cell? ⟨tb, 1, none⟩ = some (.map (some mb)) ∧ w.ownsMap Tryd.prog 9 (Go.plainElem Tryd.prog 3) mb m.syms.length m.D := by
  obtain ⟨vs, mb, rs, h1, _, _, _, h5, _⟩ := h.lies
  exact ⟨mb, cell_at h1, h5⟩
theorem Tb.look_some {m : Tb} (h : m.Maps) {s : ByteArray} {i : Nat} (hf : m.find s = some i) : Go.Maps.has m.D (nkey s) = true ∧ ∀ z, m.D.atKey (nkey s) z = .lit (.int .i64 i) := by
  have := h s
  rw [hf] at this
  exact this
theorem Tb.look_none {m : Tb} (h : m.Maps) {s : ByteArray} (hf : m.find s = none) : Go.Maps.has m.D (nkey s) = false := by
  have := h s
  rw [hf] at this
  exact this
theorem lit_int {a b : Int} (h : (.lit (.int .i64 a) : DataW Unit) = .lit (.int .i64 b)) : b = a := by
  injection h with h
  injection h with _ h
  exact h.symm
/-- What Find answers. -/
def Tb.found (m : Tb) (s : ByteArray) : Int × Bool := match m.find s with
  | some i => (i, true)
  | none => (0, false)
set_option maxHeartbeats 1000000 in
theorem find_any {w : World} {tb : Nat} {G : Nat → Nat} {m : Tb} (h : TableAt w tb G m) (hm : 0 < m.syms.length) (s : ByteArray) (hs : s.size ≤ 281474976710656) :
    Calls Tryd.prog 28 #[hptr tb, .string s] w fun e w' => e = .returned (.tuple #[.int .i64 (m.found s).1, .bool (m.found s).2]) ∧ w' = w := by
  have cV := h.valid hm
  obtain ⟨mb, c1, hown⟩ := h.look
  have hkey := Go.WideMaps.keyOf_string_mk (P := Tryd.prog) (k := 9) Tryd.underlying9 (s := s) (by unfold maxLen; omega)
  have hmap := h.ok.maps
  unfold Tb.found
  cases hf : m.find s with
  | some i =>
    have hl := Tb.look_some hmap hf
    have hhas : Go.Maps.has m.D (Lit.string s.data.toList) = true := hl.1
    have HO := Lib.hid (And.intro hown hl.2)
    clear h hm hmap hf hl hown
    go_enter Tryd.func28, Tryd.ntmps28
    go_wp2_with (first
      | (go_at_call 37; ((with_reducible refine cV.mono ?_); rintro e w' ⟨rfl, rfl⟩))
      | (at_lookup; refine Go.wpList_lookup_own_ok_int _ rfl _ _ 71 rfl 9 3 .i64 skey Tryd.underlying71 Tryd.underlying3 (zeroE _) mb m.syms.length m.D rfl HO.out.1 _ _ rfl hkey ?_; intro c hat hwc; obtain rfl : c = (i : Int) := lit_int ((HO.out.2 _).symm.trans hat)))
    go_ret2
    exact ⟨rfl, rfl⟩
  | none =>
    have hhas : Go.Maps.has m.D (Lit.string s.data.toList) = false := Tb.look_none hmap hf
    have HO := Lib.hid (And.intro hown (Go.Maps.atKey_of_not_has hhas))
    clear h hm hmap hf hown
    go_enter Tryd.func28, Tryd.ntmps28
    go_wp2_with (first
      | (go_at_call 37; ((with_reducible refine cV.mono ?_); rintro e w' ⟨rfl, rfl⟩))
      | (at_lookup; refine Go.wpList_lookup_own_ok_int _ rfl _ _ 71 rfl 9 3 .i64 skey Tryd.underlying71 Tryd.underlying3 (zeroE _) mb m.syms.length m.D rfl HO.out.1 _ _ rfl hkey ?_; intro c hat hwc; obtain rfl : c = (0 : Int) := lit_int ((HO.out.2 _).symm.trans hat)))
    go_ret2
    exact ⟨rfl, rfl⟩
theorem intern_err (tb : Nat) (s : ByteArray) (er : Int) (w : World) (he : (er != 0) = true) (cV : Calls Tryd.prog 37 #[hptr tb] w fun e w' => e = .returned (.bool true) ∧ w' = w)
    (cK : Calls Tryd.prog 39 #[.string s] w fun e w' => e = .returned (.int .i64 er) ∧ Below w.heap.size w w') :
    Calls Tryd.prog 13 #[hptr tb, .string s] w fun e w' => e = .returned (.tuple #[.int .i64 0, .int .i64 er]) ∧ Below w.heap.size w w' := by
  go_enter Tryd.func13, Tryd.ntmps13
  go_wp2_with (first
    | (go_at_call 37; ((with_reducible refine cV.mono ?_); rintro e w' ⟨rfl, rfl⟩))
    | (go_at_call 39; ((with_reducible refine cK.mono ?_); rintro e w' ⟨rfl, hb⟩)))
  go_ret2
  exact ⟨rfl, hb⟩
set_option maxHeartbeats 2000000 in
theorem intern_any {w : World} {tb : Nat} {G : Nat → Nat} {m : Tb} (h : TableAt w tb G m) (hm : 0 < m.syms.length) (s : ByteArray) (hs : s.size ≤ 281474976710656) (hT : Tabs w) :
    Calls Tryd.prog 13 #[hptr tb, .string s] w fun e w' => e = .returned (.tuple #[.int .i64 (m.intern s).1, .int .i64 (m.intern s).2.1]) ∧ WentT w w' tb G (m.intern s).2.2 := by
  have cV := h.valid hm
  have cK := check_any s w hs hT
  unfold Tb.intern
  by_cases he : ckD s ≠ 0
  · rw [if_pos he]
    refine (intern_err tb s (ckD s) w (by simpa using he) cV cK).mono ?_
    rintro e w' ⟨rfl, hb⟩
    exact ⟨rfl, .of_below h hb⟩
  · rw [if_neg he]
    have he0 : ckD s = 0 := by simpa using he
    rw [he0] at cK
    obtain ⟨mb, c1, hown⟩ := h.look
    have htl := h.lt
    have hkey := Go.WideMaps.keyOf_string_mk (P := Tryd.prog) (k := 9) Tryd.underlying9 (s := s) (by unfold maxLen; omega)
    have hmap := h.ok.maps
    have hx : ∀ W, Below w.heap.size w W → W.cell? ⟨tb, 1, none⟩ = some (.map (some mb)) ∧ W.ownsMap Tryd.prog 9 (Go.plainElem Tryd.prog 3) mb m.syms.length m.D := fun W hW => ⟨(hW.cell (p := ⟨tb, 1, none⟩) htl).trans c1, ownsMap_move hown (hW.block mb hown.lt)⟩
    have HX := Lib.hid hx
    have H := Lib.hid h
    have hfull := fun W (hW : Below w.heap.size w W) => (h.below hW).full
    clear hx c1 hown htl he he0
    cases hf : m.find s with
    | some i =>
      have hl := Tb.look_some hmap hf
      have hhas : Go.Maps.has m.D (Lit.string s.data.toList) = true := hl.1
      have HO := Lib.hid hl.2
      clear h hm hmap hf hl hfull
      go_enter Tryd.func13, Tryd.ntmps13
      go_wp2_with (first
        | (go_at_call 37; ((with_reducible refine cV.mono ?_); rintro e w' ⟨rfl, rfl⟩))
        | (go_at_call 39; ((with_reducible refine cK.mono ?_); rintro e W ⟨rfl, hb⟩; obtain ⟨q1, q2⟩ := HX.out W hb; have HQ := Lib.hid q2; clear q2))
        | (at_lookup; refine Go.wpList_lookup_own_ok_int _ rfl _ _ 71 rfl 9 3 .i64 skey Tryd.underlying71 Tryd.underlying3 (zeroE _) mb m.syms.length m.D rfl HQ.out _ _ rfl hkey ?_; intro c hat hwc; obtain rfl : c = (i : Int) := lit_int ((HO.out _).symm.trans hat)))
      go_ret2
      exact ⟨rfl, .of_below H.out hb⟩
    | none =>
      have hhas : Go.Maps.has m.D (Lit.string s.data.toList) = false := Tb.look_none hmap hf
      have HO := Lib.hid (Go.Maps.atKey_of_not_has hhas)
      by_cases hfl : m.syms.length = 16384
      · simp only [if_pos hfl]
        rw [decide_eq_true hfl] at hfull
        have CF := Lib.hid hfull
        clear h hm hmap hf hfull hfl
        go_enter Tryd.func13, Tryd.ntmps13
        go_wp2_with (first
          | (go_at_call 37; ((with_reducible refine cV.mono ?_); rintro e w' ⟨rfl, rfl⟩))
          | (go_at_call 39; ((with_reducible refine cK.mono ?_); rintro e W ⟨rfl, hb⟩; obtain ⟨q1, q2⟩ := HX.out W hb; have HQ := Lib.hid q2; clear q2))
          | (go_at_call 40; ((with_reducible refine (CF.out _ hb).mono ?_); rintro e w' ⟨rfl, rfl⟩))
          | (at_lookup; refine Go.wpList_lookup_own_ok_int _ rfl _ _ 71 rfl 9 3 .i64 skey Tryd.underlying71 Tryd.underlying3 (zeroE _) mb m.syms.length m.D rfl HQ.out _ _ rfl hkey ?_; intro c hat hwc; obtain rfl : c = (0 : Int) := lit_int ((HO.out _).symm.trans hat)))
        go_ret2
        exact ⟨rfl, .of_below H.out hb⟩
      · simp only [if_neg hfl]
        rw [decide_eq_false hfl] at hfull
        have CF := Lib.hid hfull
        have CA := Lib.hid (fun W (hW : Below w.heap.size w W) => addI_any (h.below hW) s hs (by have := h.ok.len; omega) hf)
        clear h hm hmap hf hfull hfl
        go_enter Tryd.func13, Tryd.ntmps13
        go_wp2_with (first
          | (go_at_call 37; ((with_reducible refine cV.mono ?_); rintro e w' ⟨rfl, rfl⟩))
          | (go_at_call 39; ((with_reducible refine cK.mono ?_); rintro e W ⟨rfl, hb⟩; obtain ⟨q1, q2⟩ := HX.out W hb; have HQ := Lib.hid q2; clear q2))
          | (go_at_call 40; ((with_reducible refine (CF.out _ hb).mono ?_); rintro e w' ⟨rfl, rfl⟩))
          | (at_lookup; refine Go.wpList_lookup_own_ok_int _ rfl _ _ 71 rfl 9 3 .i64 skey Tryd.underlying71 Tryd.underlying3 (zeroE _) mb m.syms.length m.D rfl HQ.out _ _ rfl hkey ?_; intro c hat hwc; obtain rfl : c = (0 : Int) := lit_int ((HO.out _).symm.trans hat)))
        have HB := Lib.hid hb
        refine (CA.out _ hb).mono ?_
        rintro e W3 ⟨rfl, hw⟩
        have HW := Lib.hid (WentT.after HB.out hw)
        clear hw CA CF HQ hb
        go_wp2
        go_ret2
        exact ⟨rfl, HW.out⟩
end Go.Proofs.YtponbhhkccpbfaaDoor
