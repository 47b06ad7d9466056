/- The law HeapApart, for every slice of words, int and word. Condition: unicode/utf8's two tables hold what the program's text lays. -/
import Derived.Test.YtleppjdmcjocmaaDoorHpApart
namespace Go.Proofs.YtleppjdmcjocmaaDoor
open Go.RowKit Go.Lib
set_option maxHeartbeats 1000000 in
set_option maxRecDepth 100000 in
theorem apart_any (v0 : Value) (L : List Wd) (i : Int) (x : Wd) (w : World) (hA : ArgW w v0 L) (hT : Tabs w) :
    Calls Tryd.prog 7 #[v0, .int .i64 i, wv x] w fun e w' => e = .returned (.bool true) ∧ Below w.heap.size w w' := by
  by_cases h : 0 < L.length ∧ L.length ≤ 60
  · exact apart_some v0 L i x w hA h.1 h.2 hT
  · obtain ⟨a0, c0, rfl⟩ := hA.slice
    have cL := lives_any (w.alloc (.cells #[.int .i64 x.1, .int .i64 x.2] 28)) (hT.below ((Below.refl _ _).alloc (Nat.le_refl _) _) hT.size)
    have CL := Lib.hid cL
    clear cL hA hT
    by_cases h1 : L.length = 0
    · have hq0 : ((L.length : Int) == 0) = true := by rw [h1]; rfl
      clear h
      go_enter Tryd.func7, Tryd.ntmps7
      go_wp2_with fail
      refine CL.out.mono ?_
      rintro e W ⟨rfl, hb⟩
      have HB := Lib.hid (((Below.refl w.heap.size w).alloc (Nat.le_refl _) _).trans (hb.mono (by simp)))
      clear hb CL
      go_wp2
      go_ret
      exact ⟨rfl, HB.out⟩
    · have hq0 : ((L.length : Int) == 0) = false := by rw [beq_eq_false_iff_ne]; omega
      have hq1 : decide ((60 : Int) < L.length) = true := by simp; omega
      clear h h1
      go_enter Tryd.func7, Tryd.ntmps7
      go_wp2_with fail
      refine CL.out.mono ?_
      rintro e W ⟨rfl, hb⟩
      have HB := Lib.hid (((Below.refl w.heap.size w).alloc (Nat.le_refl _) _).trans (hb.mono (by simp)))
      clear hb CL
      go_wp2
      go_ret
      exact ⟨rfl, HB.out⟩
end Go.Proofs.YtleppjdmcjocmaaDoor
