/- The law HeapHolds, for every slice of words, string, int and word. Condition: unicode/utf8's two tables hold what the program's text lays. -/
import Derived.Test.YtleppjdmcjocmaaDoorHpHoldsOk
import Derived.Test.YtleppjdmcjocmaaDoorHpHoldsBad
namespace Go.Proofs.YtleppjdmcjocmaaDoor
open Go.RowKit Go.Lib
set_option maxHeartbeats 1000000 in
set_option maxRecDepth 100000 in
theorem holds_long (v0 : Value) (L : List Wd) (s : ByteArray) (i : Int) (x : Wd) (w : World) (hA : ArgW w v0 L) (h : 60 < L.length ∨ 300 < s.size) (hT : Tabs w) :
    Calls Tryd.prog 4 #[v0, .string s, .int .i64 i, wv x] w fun e w' => e = .returned (.bool true) ∧ Below w.heap.size w w' := by
  obtain ⟨a0, c0, rfl⟩ := hA.slice
  have cL := lives_any (w.alloc (.cells #[.int .i64 x.1, .int .i64 x.2] 28)) (hT.below ((Below.refl _ _).alloc (Nat.le_refl _) _) hT.size)
  have CL := Lib.hid cL
  clear cL hA hT
  by_cases h1 : 60 < L.length
  · have hL1 : decide ((60 : Int) < L.length) = true := by simp; omega
    clear h
    go_enter Tryd.func4, Tryd.ntmps4
    go_wp2_with fail
    refine CL.out.mono ?_
    rintro e W ⟨rfl, hb⟩
    have HB := Lib.hid (((Below.refl w.heap.size w).alloc (Nat.le_refl _) _).trans (hb.mono (by simp)))
    clear hb CL
    go_wp2
    go_ret
    exact ⟨rfl, HB.out⟩
  · have hL1 : decide ((60 : Int) < L.length) = false := by simp; omega
    have hs1 : (300 : Int) < s.size := by omega
    clear h h1
    go_enter Tryd.func4, Tryd.ntmps4
    go_wp2_with fail
    refine CL.out.mono ?_
    rintro e W ⟨rfl, hb⟩
    have HB := Lib.hid (((Below.refl w.heap.size w).alloc (Nat.le_refl _) _).trans (hb.mono (by simp)))
    clear hb CL
    go_wp2
    go_ret
    exact ⟨rfl, HB.out⟩
theorem lenD_le (s : ByteArray) : lenD s.data.toList ≤ s.size := by
  unfold lenD
  split
  · rw [← runeCount_eq]; exact runeCount_le s
  · omega
theorem holds_any (v0 : Value) (L : List Wd) (s : ByteArray) (i : Int) (x : Wd) (w : World) (hA : ArgW w v0 L) (hT : Tabs w) :
    Calls Tryd.prog 4 #[v0, .string s, .int .i64 i, wv x] w fun e w' => e = .returned (.bool true) ∧ Below w.heap.size w w' := by
  by_cases h : 60 < L.length ∨ 300 < s.size
  · exact holds_long v0 L s i x w hA h hT
  · have hs : s.size ≤ 300 := by omega
    have hL : L.length ≤ 60 := by omega
    have hle := lenD_le s
    cases hv : validD s.data.toList
    · refine holds_bad v0 L s i x [some (.vec L)] w hA hL hs hT ⟨rfl, rfl⟩ (fun W hb G h2 hTW => ?_) (fun W hb G p h2 => ?_)
      · refine (text_bad_any h2 hTW (by omega) hv).mono ?_
        rintro e w' ⟨he, hb2⟩
        exact ⟨he, Keeps.of_below hb2, G, h2.below hb2, fun k hk => Iff.rfl⟩
      · refine textof_no h2 (0, 0) fun t n e => ?_
        simp [Hp.find, hpF, Ob.kind] at e
    · refine holds_ok v0 L s i x [some (.vec L), some (.text s (lenD s.data.toList))] w hA hL hs hT ⟨rfl, rfl⟩ (fun W hb G h2 hTW => ?_) (fun W hb G p h2 => ?_)
      · exact text_any h2 hTW (by omega) hv (by omega) (adds_new rfl (by show 1 < 200; decide) (by simp [total, osize, Ob.size]; omega))
      · refine textof_ok h2 (3, 1) s (lenD s.data.toList) ?_
        refine find_at0 _ 1 (.text s (lenD s.data.toList)) ?_
        simp [hpF]
end Go.Proofs.YtleppjdmcjocmaaDoor
