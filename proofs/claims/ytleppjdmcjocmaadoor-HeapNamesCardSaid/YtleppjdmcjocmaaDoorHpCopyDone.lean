/- After Copy's loop: the second heap lies in memory. -/
import Derived.Test.YtleppjdmcjocmaaDoorHpCloneOb
namespace Go.Proofs.YtleppjdmcjocmaaDoor
open Go.RowKit Go.Lib
/-- The copy's labels. -/
def copyLab (a b : Nat) (G2 : Nat → Nat) (j : Nat) : Nat := if j = b then 1 else if a ≤ j ∧ j < b then 3 else G2 j
theorem CopyAt.done {w wr w2 : World} {hb : Nat} {G G2 : Nat → Nat} {m : Hp} {a2 : Option Addr} {cx : Nat} (h0 : HeapAt w hb G m) (hl : m.obs.length ≤ 65536) (hc : CopyAt w wr w.heap.size G2 m.obs m.obs.length)
    (ho : w2.ownsRow wr.heap.size 3 1 (.slice a2 m.free.length cx) m.free.length (m.free.map (Value.int .i64))) (hb2 : Below wr.heap.size wr w2) :
    let w' := w2.alloc (.cells #[.int .i64 m.lim, .slice (some ⟨w.heap.size, 0, none⟩) m.obs.length m.obs.length, .slice a2 m.free.length cx, .int .i64 (total m.obs)] 67)
    Below w.heap.size w w' ∧ HeapAt w' w2.heap.size (copyLab wr.heap.size w2.heap.size G2) m ∧ ∀ k, k < w.heap.size → copyLab wr.heap.size w2.heap.size G2 k = 0 := by
  intro w'
  have hs1 := hc.below.size
  have hs2 := hb2.size
  obtain ⟨ys, hys, hyh, hyr⟩ := hc.row
  have hyl := lt_at hyh
  have hblk : ∀ j, j < w2.heap.size → w'.heap[j]? = w2.heap[j]? := fun j hj => Below.heap_alloc _ _ _ hj
  have hlab : ∀ j, j < wr.heap.size → copyLab wr.heap.size w2.heap.size G2 j = G2 j := fun j hj => by
    unfold copyLab
    rw [if_neg (by omega), if_neg (by omega)]
  refine ⟨(hc.below.trans (hb2.mono hs1)).alloc (by omega) _, ⟨h0.ok, fun j hj => ?_, if_pos rfl, _, _, ys, alloc_at w2 _, ⟨⟨by simpa using hys, .inr ⟨w.heap.size, m.obs.length, ys.toArray, rfl, Nat.zero_le _, ?_, Nat.le_refl _, by unfold maxLen; omega, by simp [hys], by rw [Nat.mul_one]; exact List.take_of_length_le (by simp; omega)⟩⟩, fun k hk => ?_⟩, ⟨ho.alloc _ |> own_base (B' := 0) (hB := Nat.zero_le _), fun k hk => ?_⟩, fun i o hio => ?_⟩, fun k hk => (hlab k (by omega)).trans (hc.old k hk)⟩
  · have hj2 : w2.heap.size + 1 ≤ j := by simpa [w'] using hj
    unfold copyLab
    rw [if_neg (by omega), if_neg (by omega)]
    exact hc.new j (by omega)
  · exact (hblk _ (by omega)).trans ((hb2.block _ hyl).trans hyh)
  · simp only [Value.ownBlock, Option.some.injEq] at hk
    subst hk
    exact (hlab _ hyl).trans hc.lab
  · have h5 := ho.lt k hk
    unfold copyLab
    rw [if_neg (by omega), if_pos (by omega)]
  · obtain ⟨v, hv, ha, _⟩ := hyr i o hio
    have hi : i < m.obs.length := by
      rcases Nat.lt_or_ge i m.obs.length with h | h
      · exact h
      · rw [List.getElem?_eq_none h] at hio; cases hio
    exact ⟨v, hv, (ha hi).keep (by omega) (fun j hj _ => (hblk j (by omega)).trans (hb2.block j hj)) (fun j hj e => (hlab j hj).trans e)⟩
end Go.Proofs.YtleppjdmcjocmaaDoor
