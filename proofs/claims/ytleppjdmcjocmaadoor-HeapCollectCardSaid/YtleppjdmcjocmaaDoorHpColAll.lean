/- The law HeapCollect on any input: beyond its bounds it returns true at once. -/
import Derived.Test.YtleppjdmcjocmaaDoorHpCol
namespace Go.Proofs.YtleppjdmcjocmaaDoor
open Go.RowKit Go.Lib
set_option maxHeartbeats 8000000 in
set_option maxRecDepth 20000 in
theorem col_long (v0 v1 v2 : Value) (cs ds rs : List Int) (w : World) (hA0 : ArgI w v0 cs) (hA1 : ArgI w v1 ds) (hA2 : ArgI w v2 rs) (hT : Tabs w) (hL : 40 < cs.length) :
    Calls Tryd.prog 6 #[v0, v1, v2] w fun e w' => e = .returned (.bool true) ∧ Below w.heap.size w w' := by
  obtain ⟨a0, c0, rfl⟩ := hA0.slice
  obtain ⟨a1, c1, rfl⟩ := hA1.slice
  obtain ⟨a2, c2, rfl⟩ := hA2.slice
  have hL2 : decide ((40 : Int) < cs.length) = true := by simp; omega
  have HT := Lib.hid hT
  clear hT hA0 hA1 hA2
  go_enter Tryd.func6, Tryd.ntmps6
  go_wp2_with fail
  refine (lives_any _ HT.out).mono ?_
  rintro e W0 ⟨rfl, hb0⟩
  have H0 := Lib.hid hb0
  clear hb0
  go_wp2
  go_ret
  exact ⟨rfl, H0.out⟩
set_option maxHeartbeats 8000000 in
set_option maxRecDepth 20000 in
theorem col_short (v0 v1 v2 : Value) (cs ds rs : List Int) (w : World) (hA0 : ArgI w v0 cs) (hA1 : ArgI w v1 ds) (hA2 : ArgI w v2 rs) (hT : Tabs w) (hL : ¬ 40 < cs.length) (hD : ds.length < cs.length) :
    Calls Tryd.prog 6 #[v0, v1, v2] w fun e w' => e = .returned (.bool true) ∧ Below w.heap.size w w' := by
  obtain ⟨a0, c0, rfl⟩ := hA0.slice
  obtain ⟨a1, c1, rfl⟩ := hA1.slice
  obtain ⟨a2, c2, rfl⟩ := hA2.slice
  have hL2 : decide ((40 : Int) < cs.length) = false := by simp; omega
  have hD2 : decide ((ds.length : Int) < cs.length) = true := by simp; omega
  have HT := Lib.hid hT
  clear hT hA0 hA1 hA2
  go_enter Tryd.func6, Tryd.ntmps6
  go_wp2_with fail
  refine (lives_any _ HT.out).mono ?_
  rintro e W0 ⟨rfl, hb0⟩
  have H0 := Lib.hid hb0
  clear hb0
  go_wp2
  go_ret
  exact ⟨rfl, H0.out⟩
set_option maxHeartbeats 8000000 in
set_option maxRecDepth 20000 in
theorem col_roots (v0 v1 v2 : Value) (cs ds rs : List Int) (w : World) (hA0 : ArgI w v0 cs) (hA1 : ArgI w v1 ds) (hA2 : ArgI w v2 rs) (hT : Tabs w) (hL : ¬ 40 < cs.length) (hD : cs.length ≤ ds.length) (hR : 40 < rs.length) :
    Calls Tryd.prog 6 #[v0, v1, v2] w fun e w' => e = .returned (.bool true) ∧ Below w.heap.size w w' := by
  obtain ⟨a0, c0, rfl⟩ := hA0.slice
  obtain ⟨a1, c1, rfl⟩ := hA1.slice
  obtain ⟨a2, c2, rfl⟩ := hA2.slice
  have hL2 : decide ((40 : Int) < cs.length) = false := by simp; omega
  have hD2 : decide ((ds.length : Int) < cs.length) = false := by simp; omega
  have hR2 : decide ((40 : Int) < rs.length) = true := by simp; omega
  have HT := Lib.hid hT
  clear hT hA0 hA1 hA2
  go_enter Tryd.func6, Tryd.ntmps6
  go_wp2_with fail
  refine (lives_any _ HT.out).mono ?_
  rintro e W0 ⟨rfl, hb0⟩
  have H0 := Lib.hid hb0
  clear hb0
  go_wp2
  go_ret
  exact ⟨rfl, H0.out⟩
theorem col_any (v0 v1 v2 : Value) (cs ds rs : List Int) (w : World) (hA0 : ArgI w v0 cs) (hA1 : ArgI w v1 ds) (hA2 : ArgI w v2 rs) (hT : Tabs w) :
    Calls Tryd.prog 6 #[v0, v1, v2] w fun e w' => e = .returned (.bool true) ∧ Below w.heap.size w w' := by
  by_cases hL : 40 < cs.length
  · exact col_long v0 v1 v2 cs ds rs w hA0 hA1 hA2 hT hL
  · by_cases hD : cs.length ≤ ds.length
    · by_cases hR : 40 < rs.length
      · exact col_roots v0 v1 v2 cs ds rs w hA0 hA1 hA2 hT hL hD hR
      · exact col_main v0 v1 v2 cs ds rs w hA0 hA1 hA2 (by omega) hD (by omega) hT
    · exact col_short v0 v1 v2 cs ds rs w hA0 hA1 hA2 hT hL (by omega)
end Go.Proofs.YtleppjdmcjocmaaDoor
