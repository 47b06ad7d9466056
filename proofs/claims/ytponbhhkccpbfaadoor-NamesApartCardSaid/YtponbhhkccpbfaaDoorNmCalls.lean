/- The contracts of Fresh, Intern, Find, Name and Interned. Condition: unicode/utf8's two tables hold what the program's text lays. -/
import Derived.Test.YtponbhhkccpbfaaDoorNmAdd2
namespace Go.Proofs.YtponbhhkccpbfaaDoor
open Go.RowKit Go.Lib Go.Shelf
/-- What Fresh answers, and the table behind it. -/
def Tb.fresh (m : Tb) (s : ByteArray) : Int × Int × Tb := if ckD s ≠ 0 then (0, ckD s, m) else if m.syms.length = 16384 then (0, 7, m) else (m.syms.length, 0, m.add (fy s false))
def Tb.intern (m : Tb) (s : ByteArray) : Int × Int × Tb := if ckD s ≠ 0 then (0, ckD s, m) else match m.find s with
  | some i => (i, 0, m)
  | none => if m.syms.length = 16384 then (0, 7, m) else (m.syms.length, 0, m.add (fy s true))
theorem fresh_err (tb : Nat) (s : ByteArray) (er : Int) (w : World) (he : (er != 0) = true) (cV : Calls Tryd.prog 37 #[hptr tb] w fun e w' => e = .returned (.bool true) ∧ w' = w)
    (cK : Calls Tryd.prog 39 #[.string s] w fun e w' => e = .returned (.int .i64 er) ∧ Below w.heap.size w w') :
    Calls Tryd.prog 15 #[hptr tb, .string s] w fun e w' => e = .returned (.tuple #[.int .i64 0, .int .i64 er]) ∧ Below w.heap.size w w' := by
  go_enter Tryd.func15, Tryd.ntmps15
  go_wp2_with (first
    | (go_at_call 37; ((with_reducible refine cV.mono ?_); rintro e w' ⟨rfl, rfl⟩))
    | (go_at_call 39; ((with_reducible refine cK.mono ?_); rintro e w' ⟨rfl, hb⟩)))
  go_ret2
  exact ⟨rfl, hb⟩
set_option maxHeartbeats 1000000 in
theorem fresh_any {w : World} {tb : Nat} {G : Nat → Nat} {m : Tb} (h : TableAt w tb G m) (hm : 0 < m.syms.length) (s : ByteArray) (hs : s.size ≤ 281474976710656) (hT : Tabs w) :
    Calls Tryd.prog 15 #[hptr tb, .string s] w fun e w' => e = .returned (.tuple #[.int .i64 (m.fresh s).1, .int .i64 (m.fresh s).2.1]) ∧ WentT w w' tb G (m.fresh s).2.2 := by
  have cV := h.valid hm
  have cK := check_any s w hs hT
  unfold Tb.fresh
  by_cases he : ckD s ≠ 0
  · rw [if_pos he]
    refine (fresh_err tb s (ckD s) w (by simpa using he) cV cK).mono ?_
    rintro e w' ⟨rfl, hb⟩
    exact ⟨rfl, .of_below h hb⟩
  · rw [if_neg he]
    have he0 : ckD s = 0 := by simpa using he
    rw [he0] at cK
    have hfull := fun W (hW : Below w.heap.size w W) => (h.below hW).full
    by_cases hf : m.syms.length = 16384
    · rw [if_pos hf]
      rw [decide_eq_true hf] at hfull
      have CF := Lib.hid hfull
      have H := Lib.hid h
      clear hfull h hm he he0 hf
      go_enter Tryd.func15, Tryd.ntmps15
      go_wp2_with (first
        | (go_at_call 37; ((with_reducible refine cV.mono ?_); rintro e w' ⟨rfl, rfl⟩))
        | (go_at_call 39; ((with_reducible refine cK.mono ?_); rintro e w' ⟨rfl, hb⟩))
        | (go_at_call 40; ((with_reducible refine (CF.out _ hb).mono ?_); rintro e w' ⟨rfl, rfl⟩)))
      go_ret2
      exact ⟨rfl, .of_below H.out hb⟩
    · rw [if_neg hf]
      rw [decide_eq_false hf] at hfull
      have CF := Lib.hid hfull
      have CC := Lib.hid (fun W => clone_any s W hs)
      have CA := Lib.hid (fun W (hW : Below w.heap.size w W) => addF_any (h.below hW) s hs (by have := h.ok.len; omega))
      clear hfull h hm he he0 hf
      go_enter Tryd.func15, Tryd.ntmps15
      go_wp2_with (first
        | (go_at_call 37; ((with_reducible refine cV.mono ?_); rintro e w' ⟨rfl, rfl⟩))
        | (go_at_call 39; ((with_reducible refine cK.mono ?_); rintro e w' ⟨rfl, hb⟩))
        | (go_at_call 40; ((with_reducible refine (CF.out _ hb).mono ?_); rintro e w' ⟨rfl, rfl⟩)))
      refine (CC.out _).mono ?_
      rintro e W2 ⟨rfl, hb2⟩
      have HB := Lib.hid (hb.trans (hb2.mono hb.size))
      clear hb hb2 CC CF
      go_wp2_with fail
      refine (CA.out _ HB.out).mono ?_
      rintro e W3 ⟨rfl, hw⟩
      have HW := Lib.hid (WentT.after HB.out hw)
      clear hw CA
      go_wp2
      go_ret2
      exact ⟨rfl, HW.out⟩
end Go.Proofs.YtponbhhkccpbfaaDoor
