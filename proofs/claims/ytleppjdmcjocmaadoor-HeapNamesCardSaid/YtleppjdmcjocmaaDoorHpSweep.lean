/- Collect's sweep: as plain data, and what one round of it leaves in memory. -/
import Derived.Test.YtleppjdmcjocmaaDoorHpRel
import Derived.Test.YtleppjdmcjocmaaDoorHpReach
namespace Go.Proofs.YtleppjdmcjocmaaDoor
open Go.RowKit Go.Lib
/-- An object is taken away, its number is free. -/
def Hp.drop (m : Hp) (k : Nat) : Hp := ⟨m.lim, m.obs.set k none, pushL m.free k⟩
theorem total_none : ∀ (l : List (Option Ob)) (k : Nat) (o : Ob), l[k]? = some (some o) → total (l.set k none) + o.size = total l
  | [], k, o, h => by simp at h
  | u :: l, 0, o, h => by
    simp at h
    subst h
    simp [total, osize]
    omega
  | u :: l, k + 1, o, h => by
    have := total_none l k o (by simpa using h)
    simp [total] at this ⊢
    omega
theorem Hp.Ok.drop {m : Hp} {k : Nat} {o : Ob} (h : m.Ok) (hk : m.obs[k]? = some (some o)) : (m.drop k).Ok := by
  have ht := total_none _ _ _ hk
  have hkl := (List.getElem?_eq_some_iff.1 hk).1
  have hp := pushL_perm m.free (k : Int)
  have hkf : (k : Int) ∉ m.free := fun hm => by
    obtain ⟨n, e, hn⟩ := (h.free _).1 hm
    obtain rfl : k = n := by omega
    rw [hk] at hn
    cases hn
  refine ⟨h.lim1, h.lim2, by simpa [Hp.drop] using h.len, by have := h.store; simp only [Hp.drop]; omega, fun i => ?_, ?_⟩
  · simp only [Hp.drop]
    rw [hp.mem_iff, List.mem_append, h.free i]
    constructor
    · rintro (⟨n, e, hn⟩ | hi)
      · refine ⟨n, e, ?_⟩
        by_cases hnk : k = n
        · subst hnk; rw [hk] at hn; cases hn
        · rw [List.getElem?_set_ne hnk]; exact hn
      · simp at hi
        exact ⟨k, hi, by simp [hkl]⟩
    · rintro ⟨n, e, hn⟩
      by_cases hnk : k = n
      · subst hnk; exact .inr (by simp [e])
      · rw [List.getElem?_set_ne hnk] at hn
        exact .inl ⟨n, e, hn⟩
  · simp only [Hp.drop]
    rw [hp.nodup_iff]
    exact List.nodup_append.2 ⟨h.once, by simp, fun a ha b hb e => hkf (by simp at hb; rw [← hb, ← e]; exact ha)⟩
/-- How a heap lies, the value of its field of objects named. -/
structure HeapAtV (w : World) (hb : Nat) (G : Nat → Nat) (m : Hp) (vo : Value) : Prop where
  ok : m.Ok
  new : ∀ k, w.heap.size ≤ k → G k = 0
  lab : G hb = 1
  lies : ∃ vf xs, w.heap[hb]? = some (.cells #[.int .i64 m.lim, vo, vf, .int .i64 (total m.obs)] 67 (0, 0)) ∧
    Row w G 2 80 1 vo m.obs.length xs ∧ Row w G 3 3 1 vf m.free.length (ints m.free) ∧
    ∀ i o, m.obs[i]? = some o → ∃ v, xs[i]? = some v ∧ OpAt w G (4 + i) v o
theorem HeapAt.toV {w : World} {hb : Nat} {G : Nat → Nat} {m : Hp} (h : HeapAt w hb G m) : ∃ vo, HeapAtV w hb G m vo := by
  obtain ⟨ok, new, lab, vo, vf, xs, h1, h2, h3, h4⟩ := h
  exact ⟨vo, ok, new, lab, vf, xs, h1, h2, h3, h4⟩
theorem HeapAtV.toAt {w : World} {hb : Nat} {G : Nat → Nat} {m : Hp} {vo : Value} (h : HeapAtV w hb G m vo) : HeapAt w hb G m := by
  obtain ⟨ok, new, lab, vf, xs, h1, h2, h3, h4⟩ := h
  exact ⟨ok, new, lab, vo, vf, xs, h1, h2, h3, h4⟩
theorem HeapAtV.below {w w' : World} {hb : Nat} {G : Nat → Nat} {m : Hp} {vo : Value} (h : HeapAtV w hb G m vo) (hw : Below w.heap.size w w') : HeapAtV w' hb G m vo := by
  have h0 := h.toAt.below hw
  obtain ⟨ok, new, lab, vf, xs, h1, h2, h3, h4⟩ := h
  exact ⟨ok, h0.new, lab, vf, xs, (hw.block _ (lt_at h1)).trans h1, h2.keep (fun k hk _ => hw.block k hk) (fun _ _ e => e), h3.keep (fun k hk _ => hw.block k hk) (fun _ _ e => e), fun i o ho => by
    obtain ⟨v, hv1, hv2⟩ := h4 i o ho
    exact ⟨v, hv1, hv2.keep (by omega) (fun k hk _ => hw.block k hk) (fun _ _ e => e)⟩⟩
/-- One object is taken away. -/
theorem HeapAtV.drop {w w2 w3 : World} {hb g cap k : Nat} {G : Nat → Nat} {m : Hp} {o : Ob} (h : HeapAtV w hb G m (.slice (some ⟨g, 0, none⟩) m.obs.length cap)) (hk : m.obs[k]? = some (some o)) (vf : Value) (hvf : w.heap[hb]? = some (.cells #[.int .i64 m.lim, .slice (some ⟨g, 0, none⟩) m.obs.length cap, vf, .int .i64 (total m.obs)] 67 (0, 0)))
    (d : Nat) (hw2 : w2 = ((w.setCell ⟨g, k, none⟩ .nilIface).drewN d).setCell ⟨hb, 3, none⟩ (.int .i64 ((total m.obs : Int) - o.size))) (hp : Pushed w2 w3 hb G (.int .i64 m.lim) (.slice (some ⟨g, 0, none⟩) m.obs.length cap) (.int .i64 ((total m.obs : Int) - o.size)) (pushL m.free k)) :
    Keeps G w w3 ∧ ∃ G', HeapAtV w3 hb G' (m.drop k) (.slice (some ⟨g, 0, none⟩) m.obs.length cap) ∧ ∀ j, j < w.heap.size → (G' j = 0 ↔ G j = 0) := by
  have hok := h.ok.drop hk
  have ht := total_none _ _ _ hk
  have hkl := (List.getElem?_eq_some_iff.1 hk).1
  obtain ⟨ok, new, lab, vf', xs, h1, h2, h3, h4⟩ := h
  rw [hvf] at h1
  cases h1
  have hbl := lt_at hvf
  have lg : G g = 2 := h2.lab g rfl
  have hgl := h2.lt g rfl
  have hgb : g ≠ hb := fun e => by rw [e] at lg; omega
  have hz2 : w2.heap.size = w.heap.size := by rw [hw2]; simp [World.setCell]
  have ho2 : ∀ j, j ≠ g → j ≠ hb → w2.heap[j]? = w.heap[j]? := fun j n1 n2 => by
    rw [hw2, setCell_off _ n2]
    exact setCell_off _ n1
  have hos : w2.os = w.os ∧ w2.tape = w.tape ∧ w2.output = w.output := by rw [hw2]; exact ⟨rfl, rfl, rfl⟩
  have hr2 : w2.ownsRow 0 80 1 (.slice (some ⟨g, 0, none⟩) m.obs.length cap) m.obs.length (xs.set k .nilIface) := by
    rw [hw2]
    exact ownsRow_setCell_other (w := (w.setCell ⟨g, k, none⟩ .nilIface).drewN d) (own_same (w := w.setCell ⟨g, k, none⟩ .nilIface) (World.ownsRow.stored h2.own k .nilIface).1 (fun _ _ => rfl)) (fun e => hgb (by simpa [Value.ownBlock] using e)) _
  obtain ⟨p1, p2, p3, p4, p5, g', cap', p6, p7, p8⟩ := hp
  have hold : ∀ j, j < w.heap.size → G j ≠ 1 → G j ≠ 2 → G j ≠ 3 → w3.heap[j]? = w.heap[j]? := fun j hj n1 n2 n3 =>
    (p5 j (by omega) n1 n3).trans (ho2 j (fun e => n2 (e ▸ lg)) (fun e => n1 (e ▸ lab)))
  have lg' : (if g' < w.heap.size then G g' else 3) = 3 := by have := p8.lab g' rfl; rwa [hz2] at this
  have hgl' := p8.lt g' rfl
  refine ⟨⟨p1.trans hos.1, p2.trans hos.2.1, p3.trans hos.2.2, by omega, fun j hj hz => hold j hj (by omega) (by omega) (by omega)⟩, fun j => if j < w.heap.size then G j else if j = g' then 3 else 0, ⟨hok, fun j hj => ?_, ?_, .slice (some ⟨g', 0, none⟩) (pushL m.free k).length cap', xs.set k .nilIface, ?_, ?_, ?_, fun i o' ho => ?_⟩, fun j hj => ?_⟩
  · exact (if_neg (by omega)).trans (if_neg (by omega))
  · exact (if_pos hbl).trans lab
  · rw [p6]
    have e : ((total m.obs : Int) - o.size) = (total (m.drop k).obs : Nat) := by simp only [Hp.drop]; omega
    rw [e]
    rfl
  · have e : (m.drop k).obs.length = m.obs.length := by simp [Hp.drop]
    rw [e]
    refine ⟨own_same hr2 (fun j hj => ?_), fun j hj => ?_⟩
    · cases hj
      exact p5 g (by omega) (by omega) (by omega)
    · cases hj
      exact (if_pos hgl).trans lg
  · refine ⟨p8.own, fun j hj => ?_⟩
    cases hj
    by_cases hj : g' < w.heap.size
    · rw [if_pos hj] at lg'
      exact (if_pos hj).trans lg'
    · exact (if_neg hj).trans (if_pos rfl)
  · simp only [Hp.drop] at ho
    by_cases hik : k = i
    · subst hik
      rw [List.getElem?_set_self hkl] at ho
      cases ho
      have hxl : xs.length = m.obs.length := by simpa using h2.length
      exact ⟨.nilIface, by rw [List.getElem?_set_self (by omega)], rfl⟩
    · rw [List.getElem?_set_ne hik] at ho
      obtain ⟨v, hv1, hv2⟩ := h4 i o' ho
      exact ⟨v, by rw [List.getElem?_set_ne hik]; exact hv1, hv2.keep (by omega) (fun j hj e => hold j hj (by omega) (by omega) (by omega)) (fun j hj e => (if_pos hj).trans e)⟩
  · show (if j < w.heap.size then G j else if j = g' then 3 else 0) = 0 ↔ G j = 0
    rw [if_pos hj]
end Go.Proofs.YtleppjdmcjocmaaDoor
