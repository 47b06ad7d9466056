/- What add does on a heap none of whose numbers below the length is free, and where there is no room. -/
import Derived.Test.YtleppjdmcjocmaaDoorHpAdd2
namespace Go.Proofs.YtleppjdmcjocmaaDoor
open Go.RowKit Go.Lib
theorem nodup_len : ∀ (n : Nat) (l : List Nat), l.Nodup → (∀ x ∈ l, x < n) → l.length ≤ n := by
  intro n
  induction n with
  | zero => intro l _ h; cases l with
    | nil => simp
    | cons x l => exact absurd (h x (by simp)) (by omega)
  | succ n ih =>
    intro l hn h
    by_cases hm : n ∈ l
    · have h1 := ih (l.erase n) (hn.erase n) (fun x hx => by
        have h2 := (List.Nodup.mem_erase_iff hn).1 hx
        have := h x h2.2
        omega)
      rw [List.length_erase_of_mem hm] at h1
      omega
    · have := ih l hn (fun x hx => by
        have := h x hx
        by_cases e : x = n
        · subst e; exact absurd hx hm
        · omega)
      omega
theorem Hp.Ok.free_len {m : Hp} (h : m.Ok) : m.free.length ≤ m.obs.length := by
  have h1 := nodup_len m.obs.length (m.free.map Int.toNat) ?_ ?_
  · simpa using h1
  · refine (List.pairwise_map.2 ?_)
    refine List.Pairwise.imp_of_mem ?_ h.once
    intro a b ha hb hab e
    obtain ⟨n, rfl, _⟩ := (h.free a).1 ha
    obtain ⟨k, rfl, _⟩ := (h.free b).1 hb
    simp at e
    exact hab (by rw [e])
  · intro x hx
    obtain ⟨i, hi, rfl⟩ := List.mem_map.1 hx
    obtain ⟨n, rfl, hn⟩ := (h.free i).1 hi
    simpa using (List.getElem?_eq_some_iff.1 hn).1
theorem HeapAt.many {w : World} {hb : Nat} {G : Nat → Nat} {m : Hp} (h : HeapAt w hb G m) : Reads w 19 #[hptr hb] (.int .i64 ((m.obs.length : Int) - m.free.length)) := by
  obtain ⟨ok, new, lab, vo, vf, xs, h1, h2, h3, h4⟩ := h
  obtain ⟨ao, co, rfl⟩ := h2.slice
  obtain ⟨af, cf, rfl⟩ := h3.slice
  intro W hW
  exact many_any hb m.lim (total m.obs) ao af _ _ co cf _ W (by have := ok.lim1; omega) ((hW hb (lt_at h1)).trans h1) (by have := ok.len; have := ok.lim2; omega) ok.free_len
theorem HeapAt.room {w : World} {hb : Nat} {G : Nat → Nat} {m : Hp} (h : HeapAt w hb G m) : Reads w 20 #[hptr hb] (.int .i64 (1048576 - (total m.obs : Nat))) := by
  obtain ⟨ok, new, lab, vo, vf, xs, h1, h2, h3, h4⟩ := h
  refine Reads.of_same fun W hW => ?_
  exact room_any hb m.lim (total m.obs) vo vf _ W (by have := ok.lim1; omega) ((hW hb (lt_at h1)).trans h1) (by omega) (by have := ok.store; omega)
theorem total_append (l r : List (Option Ob)) : total (l ++ r) = total l + total r := by simp [total]
theorem add_full_any {w : World} {hb : Nat} {G : Nat → Nat} {m : Hp} (h : HeapAt w hb G m) (x : Value) (hf : m.obs.length - m.free.length = m.lim) :
    Calls Tryd.prog 37 #[hptr hb, x] w fun e w' => e = .returned (.tuple #[wv (0, 0), .int .i64 7]) ∧ Below w.heap.size w w' := by
  have hM := h.many
  have hfl := h.ok.free_len
  obtain ⟨ok, new, lab, vo, vf, xs, h1, h2, h3, h4⟩ := h
  rw [show (m.obs.length : Int) - m.free.length = m.lim by omega] at hM
  exact add_full hb m.lim x w (lt_at h1) (cell_at h1) hM
theorem ObAt.size_le {w : World} {G : Nat → Nat} {L : Nat} {x : Value} {o : Ob} (h : ObAt w G L x o) (hs : o.size ≤ 1048576) :
    ∃ b, G b = L ∧ b < w.heap.size ∧
      ((x = .iface 69 (.pointer (some ⟨b, 0, none⟩)) ∧ Reads w 85 #[.pointer (some ⟨b, 0, none⟩)] (.int .i64 o.size)) ∨
       (x = .iface 74 (.pointer (some ⟨b, 0, none⟩)) ∧ Reads w 87 #[.pointer (some ⟨b, 0, none⟩)] (.int .i64 o.size)) ∨
       (x = .iface 82 (.pointer (some ⟨b, 0, none⟩)) ∧ Reads w 89 #[.pointer (some ⟨b, 0, none⟩)] (.int .i64 o.size)) ∨
       (x = .iface 94 (.pointer (some ⟨b, 0, none⟩)) ∧ Reads w 91 #[.pointer (some ⟨b, 0, none⟩)] (.int .i64 o.size))) := by
  cases o with
  | pair a d => obtain ⟨b, rfl, h2, h3⟩ := h; exact ⟨b, h2, lt_at h3, .inl ⟨rfl, Reads.of_same fun W _ => size_pair b W⟩⟩
  | text s n => obtain ⟨b, rfl, h2, h3⟩ := h; exact ⟨b, h2, lt_at h3, .inr (.inl ⟨rfl, Reads.of_same fun W hW => size_text b n W (cell_at ((hW b (lt_at h3)).trans h3))⟩)⟩
  | vec l =>
    obtain ⟨b, sv, rfl, h2, h3, h4⟩ := h
    obtain ⟨a, c, rfl⟩ := h4.slice
    exact ⟨b, h2, lt_at h3, .inr (.inr (.inl ⟨rfl, Reads.of_same fun W hW => size_vec b l.length c a W (cell_at ((hW b (lt_at h3)).trans h3))⟩))⟩
  | code le mo de bs cs =>
    obtain ⟨b, sv, cv, rfl, h2, h3, h4, h5⟩ := h
    obtain ⟨a, c, rfl⟩ := h4.slice
    obtain ⟨a', c', rfl⟩ := h5.slice
    simp only [Ob.size] at hs
    refine ⟨b, h2, lt_at h3, .inr (.inr (.inr ⟨rfl, fun W hW => ?_⟩))⟩
    have h6 := (hW b (lt_at h3)).trans h3
    exact size_code b bs.length c cs.length c' a a' W (cell_at h6) (cell_at h6) (by omega) (by omega)
theorem add_big_any {w : World} {hb : Nat} {G Gx : Nat → Nat} {m : Hp} (h : HeapAt w hb G m) {x : Value} {o : Ob} (hx : ObAt w Gx 1 x o) (hf : m.obs.length - m.free.length ≠ m.lim) (hs : o.size ≤ 1048576) (hbig : 1048576 < total m.obs + o.size) :
    Calls Tryd.prog 37 #[hptr hb, x] w fun e w' => e = .returned (.tuple #[wv (0, 0), .int .i64 7]) ∧ Below w.heap.size w w' := by
  have hM := h.many
  have hR := h.room
  have hfl := h.ok.free_len
  have hst := h.ok.store
  obtain ⟨ok, new, lab, vo, vf, xs, h1, h2, h3, h4⟩ := h
  have hm : (((m.obs.length : Int) - m.free.length) == (m.lim : Int)) = false := by rw [beq_eq_false_iff_ne]; omega
  obtain ⟨b, _, hbs, h5 | h5 | h5 | h5⟩ := hx.size_le hs <;> obtain ⟨rfl, h6⟩ := h5
  · exact add_big_pair hb b m.lim _ _ _ w (lt_at h1) (cell_at h1) hm (by omega) hM h6 hR
  · exact add_big_text hb b m.lim _ _ _ w (lt_at h1) (cell_at h1) hm (by omega) hM h6 hR
  · exact add_big_vec hb b m.lim _ _ _ w (lt_at h1) (cell_at h1) hm (by omega) hM h6 hR
  · exact add_big_code hb b m.lim _ _ _ w (lt_at h1) (cell_at h1) hm (by omega) hM h6 hR
end Go.Proofs.YtleppjdmcjocmaaDoor
