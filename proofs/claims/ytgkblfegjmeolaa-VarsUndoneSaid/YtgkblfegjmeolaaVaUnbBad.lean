/- Unbind's refusal. -/
import Derived.Test.YtgkblfegjmeolaaVaUnb
import Derived.Test.YtgkblfegjmeolaaVaKit
namespace Go.Proofs.Ytgkblfegjmeolaa
open Go.RowKit Go.Lib Go.Shelf
attribute [local go_sem] Oper.semAt_some
set_option maxRecDepth 100000 in
set_option maxHeartbeats 1000000 in
theorem unbind_bad {w : World} {vb : Nat} {G : Nat → Nat} {m : Vs} (h : VarsAt w vb G m) (d : Nat) (hd : m.binds.length < d) :
    Calls Try.prog 19 #[hptr vb, .int .i64 d] w fun e w' => e = .returned (.int .i64 3) ∧ Below w.heap.size w w' := by
  obtain ⟨cm, mm, a, c, bs, e1, eb, hrow, hok⟩ := h.unb
  have hbl : bs.length = m.binds.length := by rw [← eb]; simp
  obtain ⟨n, hn⟩ : ∃ n, bs.length = n := ⟨_, rfl⟩
  rw [hn] at e1
  have hdn : n < d := by omega
  have hb1 : Below w.heap.size w (w.alloc (.cells #[hptr vb] 23)) := (Below.refl _ _).alloc (Nat.le_refl _) _
  have hv1 := h.below hb1
  have cV := hv1.valid
  have c3 : (w.alloc (.cells #[hptr vb] 23)).cell? ⟨vb, 3, none⟩ = some (.slice a n c) := cell_at ((hb1.block _ (lt_at e1)).trans e1)
  have a0 := alloc_at w (.cells #[hptr vb] 23)
  have b0 : (w.alloc (.cells #[hptr vb] 23)).cell? ⟨w.heap.size, 0, none⟩ = some (hptr vb) := cell_at a0
  have hd0 : decide ((d : Int) < 0) = false := by simp
  have hd1 : (n : Int) < (d : Int) := by omega
  have HV := Lib.hid cV
  clear h e1 eb hrow hok hbl hn hb1 hv1 cV a0 hd
  refine (callsIn_wide (n := 6)).1 ?_
  refine callsIn_of_wp_marks Try.func19 rfl trivial ?_ rfl
  simp only [Try.ntmps19, List.size_toArray, List.length_cons, List.length_nil, Nat.reduceAdd, Nat.reduceSub, Array.replicate_succ, Array.replicate_zero, List.push_toArray, List.append_toArray, List.nil_append, List.cons_append]
  refine wpIn_wide.2 ?_
  go_wp2_with fail
  refine HV.out.mono ?_
  rintro e w1 ⟨rfl, rfl⟩
  go_wp2
  exact ⟨_, results_tmp rfl _ _ _, rfl, (Below.refl _ _).alloc (Nat.le_refl _) _⟩
end Go.Proofs.Ytgkblfegjmeolaa
