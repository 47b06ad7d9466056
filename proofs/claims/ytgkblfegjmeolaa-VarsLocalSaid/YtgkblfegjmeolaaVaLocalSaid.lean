/- VarsLocal: for every input the call returns true, and each argument reads afterwards as it read before. No condition. -/
import Derived.Test.YtgkblfegjmeolaaRows
import Derived.ProofKit
import Derived.OpenShut
import Derived.Lib.SmallJoins
import Derived.Test.YtgkblfegjmeolaaVaLocal
namespace Go.Proofs.Ytgkblfegjmeolaa.varsLocal
open Go.ChangeShapes Go.WideShapes Go.ChangeAt Go.RowKit Go.Lib Go.Shelf Go.Joins
theorem own : ownKnob Try.prog.godebug = none := by kernel_rfl
theorem cells_word : Try.prog.cellsOf 28 = 2 := by kernel_rfl
set_option maxRecDepth 100000 in
theorem lifted (os : Os) (started : os.Started) (H : Type) (enc : TypeId × Value → H) :
    ReturnsInHanded {} Try.checked os 5 .any (Rows.varsLocalSpec.pre6 enc Try.prog Try.f5 Rows.varsLocalRow.domain false) (Rows.varsLocalSpec.post enc Try.prog Try.f5 false true false false) := by
  refine returnsInHanded_of_change (C := Try.checked) own started (by kernel_rfl) Try.func5
    (ChangeSpec.witness6 (enc := enc) (C := Try.checked) false ⟨#[], #[.int .i64 0, .int .i64 0, .int .i64 0, .agg #[.int .i64 0, .int .i64 0], .agg #[.int .i64 0, .int .i64 0], .agg #[.int .i64 0, .int .i64 0]], []⟩ 8 (by kernel_rfl) (by kernel_rfl) (by kernel_rfl) (by kernel_rfl)) ?_
  intro W base args ds gs before hval0 hW hcnd _
  have hval : ∀ (j : Nat) t v, Try.f5.params[j]? = some t → args[j]? = some v → Value.okWide Try.prog W .any base t v := hval0
  have hW' := hW
  obtain ⟨p, q, hA0, hV, rfl, hfz, hnd⟩ := hW
  have hA : DataW.TrodAll enc Try.prog W 0 (fun _ => true) true Try.f5.params.toList args.toList ds p := hA0
  rw [Try.params5] at hA hval
  obtain ⟨v0, vs0, d0, ds0, p0, q0, hargs, rfl, rfl, h0, r0⟩ := trodAll_cons hA
  obtain ⟨v1, vs1, d1, ds1, p1, q1, rfl, rfl, rfl, h1, r1⟩ := trodAll_cons r0
  obtain ⟨v2, vs2, d2, ds2, p2, q2, rfl, rfl, rfl, h2, r2⟩ := trodAll_cons r1
  obtain ⟨v3, vs3, d3, ds3, p3, q3, rfl, rfl, rfl, h3, r3⟩ := trodAll_cons r2
  obtain ⟨v4, vs4, d4, ds4, p4, q4, rfl, rfl, rfl, h4, r4⟩ := trodAll_cons r3
  obtain ⟨v5, vs5, d5, ds5, p5, q5, rfl, rfl, rfl, h5, r5⟩ := trodAll_cons r4
  obtain ⟨rfl, rfl, rfl⟩ := trodAll_nil r5
  obtain rfl : args = #[v0, v1, v2, v3, v4, v5] := by cases args; simp_all
  obtain ⟨rfl, rfl⟩ := trodVars_none hV
  obtain ⟨x0, rfl, rfl, rfl, wx0⟩ := open_int Try.underlying3 (hval 0 3 v0 rfl rfl) h0
  obtain ⟨x1, rfl, rfl, rfl, wx1⟩ := open_int Try.underlying3 (hval 1 3 v1 rfl rfl) h1
  obtain ⟨x2, rfl, rfl, rfl, wx2⟩ := open_int Try.underlying3 (hval 2 3 v2 rfl rfl) h2
  obtain ⟨c0_3, c1_3, y0_3, y1_3, m_3, rfl, rfl, rfl, hy0_3, hy1_3⟩ := open_agg2 Try.underlying28 (by kernel_rfl) cells_word (hval 3 28 v3 rfl rfl) h3
  obtain ⟨a3, ea3, rfl, wa3⟩ := DataW.trod_int Try.underlying3 hy0_3
  obtain ⟨b3, eb3, rfl, wb3⟩ := DataW.trod_int Try.underlying3 hy1_3
  simp at ea3 eb3
  subst ea3 eb3
  have structReads3 : ∀ (W' : World) (sp : Nat → Bool), DataW.Trod enc Try.prog W' 0 sp true 28 (.agg #[.int .i64 a3, .int .i64 b3]) (.agg [.lit (.int .i64 a3), .lit (.int .i64 b3)]) [] := fun W' sp =>
    shut_agg2 (y0 := (.lit (.int .i64 a3), [])) (y1 := (.lit (.int .i64 b3), [])) Try.underlying28 (by kernel_rfl) cells_word ⟨1, by simp [DataW.trod, Try.underlying3, wa3]⟩ ⟨1, by simp [DataW.trod, Try.underlying3, wb3]⟩
  obtain ⟨c0_4, c1_4, y0_4, y1_4, m_4, rfl, rfl, rfl, hy0_4, hy1_4⟩ := open_agg2 Try.underlying28 (by kernel_rfl) cells_word (hval 4 28 v4 rfl rfl) h4
  obtain ⟨a4, ea4, rfl, wa4⟩ := DataW.trod_int Try.underlying3 hy0_4
  obtain ⟨b4, eb4, rfl, wb4⟩ := DataW.trod_int Try.underlying3 hy1_4
  simp at ea4 eb4
  subst ea4 eb4
  have structReads4 : ∀ (W' : World) (sp : Nat → Bool), DataW.Trod enc Try.prog W' 0 sp true 28 (.agg #[.int .i64 a4, .int .i64 b4]) (.agg [.lit (.int .i64 a4), .lit (.int .i64 b4)]) [] := fun W' sp =>
    shut_agg2 (y0 := (.lit (.int .i64 a4), [])) (y1 := (.lit (.int .i64 b4), [])) Try.underlying28 (by kernel_rfl) cells_word ⟨1, by simp [DataW.trod, Try.underlying3, wa4]⟩ ⟨1, by simp [DataW.trod, Try.underlying3, wb4]⟩
  obtain ⟨c0_5, c1_5, y0_5, y1_5, m_5, rfl, rfl, rfl, hy0_5, hy1_5⟩ := open_agg2 Try.underlying28 (by kernel_rfl) cells_word (hval 5 28 v5 rfl rfl) h5
  obtain ⟨a5, ea5, rfl, wa5⟩ := DataW.trod_int Try.underlying3 hy0_5
  obtain ⟨b5, eb5, rfl, wb5⟩ := DataW.trod_int Try.underlying3 hy1_5
  simp at ea5 eb5
  subst ea5 eb5
  have structReads5 : ∀ (W' : World) (sp : Nat → Bool), DataW.Trod enc Try.prog W' 0 sp true 28 (.agg #[.int .i64 a5, .int .i64 b5]) (.agg [.lit (.int .i64 a5), .lit (.int .i64 b5)]) [] := fun W' sp =>
    shut_agg2 (y0 := (.lit (.int .i64 a5), [])) (y1 := (.lit (.int .i64 b5), [])) Try.underlying28 (by kernel_rfl) cells_word ⟨1, by simp [DataW.trod, Try.underlying3, wa5]⟩ ⟨1, by simp [DataW.trod, Try.underlying3, wb5]⟩
  clear hA0 hval0 hval
  simp only [List.append_nil] at hW'
  refine (local_any x0 x1 x2 (a3, b3) (a4, b4) (a5, b5) W).mono ?_
  rintro e W' ⟨rfl, hbw⟩
  refine ⟨_, rfl, _, _, _, [], [], [], hW', ?_, ?_, ?_, hbw.frame _, fun h => by cases h⟩
  · exact trodAll_cons_mk (shut_bool Try.underlying4 _) trodAll_mk0
  · exact trodAll_cons_mk (p := []) (p' := []) (shut_int Try.underlying3 wx0) (trodAll_cons_mk (p := []) (p' := []) (shut_int Try.underlying3 wx1) (trodAll_cons_mk (p := []) (p' := []) (shut_int Try.underlying3 wx2) (trodAll_cons_mk (p := []) (p' := []) (structReads3 _ _) (trodAll_cons_mk (p := []) (p' := []) (structReads4 _ _) (trodAll_cons_mk (p := []) (p' := []) (structReads5 _ _) trodAll_mk0)))))
  · rfl
theorem proved : Rows.VarsLocalSaid :=
  OpenClaim.holds_of_wide 5 Try.f5 rfl rfl rfl rfl rfl rfl rfl ⟨rfl, rfl, rfl, rfl, rfl⟩ rfl rfl rfl rfl rfl (by kernel_rfl) Try.func5 (by kernel_rfl)
    (of_decide_eq_true (by kernel_rfl)) (by unfold Func.isWrapper; first | (rw [if_pos (by decide +kernel)]; kernel_rfl) | (rw [if_neg (by decide +kernel)]; exact ⟨rfl, rfl⟩))
    (fun os started H enc _ => lifted os started H enc)
#print axioms proved
end Go.Proofs.Ytgkblfegjmeolaa.varsLocal
