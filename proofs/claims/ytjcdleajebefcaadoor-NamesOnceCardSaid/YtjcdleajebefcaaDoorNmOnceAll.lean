/- The law NamesOnce, for every slice of strings and every slice of bools. Condition: unicode/utf8's two tables hold what the program's text lays. -/
import Derived.Test.YtjcdleajebefcaaDoorNmOnce
namespace Go.Proofs.YtjcdleajebefcaaDoor
open Go.RowKit Go.Lib Go.Shelf
set_option maxHeartbeats 1000000 in
set_option maxRecDepth 100000 in
theorem once_any (v0 v1 : Value) (L : List ByteArray) (B : List Bool) (w : World) (hA : ArgS w v0 L) (hLm : (L.length : Int) ≤ 9223372036854775807) (hB : ArgB w v1 B) (hT : Tabs w) :
    Calls Tryd.prog 5 #[v0, v1] w fun e w' => e = .returned (.bool true) ∧ Below w.heap.size w w' := by
  by_cases h : lightS L 60 300 = true ∧ L.length ≤ B.length
  · exact once_ok v0 v1 L B w hA hB h.1 h.2 hT
  · obtain ⟨a0, c0, rfl⟩ := hA.slice
    obtain ⟨a1, c1, rfl⟩ := hB.slice
    have cL := fun W (hW : Below w.heap.size w W) => light_any (.slice a0 L.length c0) L 60 300 hA hW hLm
    have CL := Lib.hid cL
    have CV := Lib.hid (lives_any w hT)
    clear cL hA hB hT
    cases hl : lightS L 60 300
    · rw [hl] at CL
      clear h
      go_enter Tryd.func5, Tryd.ntmps5
      go_wp2_with fail
      refine CV.out.mono ?_
      rintro e W0 ⟨rfl, hb0⟩
      have H0 := Lib.hid hb0
      clear hb0
      go_wp2_with fail
      refine (CL.out _ H0.out).mono ?_
      rintro e Wx ⟨rfl, rfl⟩
      go_wp2
      go_ret
      exact ⟨rfl, H0.out⟩
    · have hq2 : B.length < L.length := by
        rw [hl] at h
        simp at h
        omega
      rw [hl] at CL
      clear h
      go_enter Tryd.func5, Tryd.ntmps5
      go_wp2_with fail
      refine CV.out.mono ?_
      rintro e W0 ⟨rfl, hb0⟩
      have H0 := Lib.hid hb0
      clear hb0
      go_wp2_with fail
      refine (CL.out _ H0.out).mono ?_
      rintro e Wx ⟨rfl, rfl⟩
      go_wp2
      go_ret
      exact ⟨rfl, H0.out⟩
end Go.Proofs.YtjcdleajebefcaaDoor
