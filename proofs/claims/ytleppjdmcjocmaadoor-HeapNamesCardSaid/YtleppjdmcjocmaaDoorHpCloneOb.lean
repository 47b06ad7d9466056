/- A clone lies in memory as the object does: its blocks are new. -/
import Derived.Test.YtleppjdmcjocmaaDoorHpCopy
namespace Go.Proofs.YtleppjdmcjocmaaDoor
open Go.RowKit Go.Lib
/-- What clone leaves: a value that lies as the object, in blocks that W had not. -/
abbrev Cloned (W : World) (L : Nat) (o : Ob) (e : Ending) (w' : World) : Prop :=
  ∃ T q Gn, e = .returned (.iface T (.pointer (some q))) ∧ Below W.heap.size W w' ∧ (∀ j, Gn j ≠ 0 → W.heap.size ≤ j ∧ j < w'.heap.size) ∧ ObAt w' Gn L (.iface T (.pointer (some q))) o
theorem clone_pair_ob {W : World} {G : Nat → Nat} {L b : Nat} (a d : Wd) (h : ObAt W G L (.iface 69 (.pointer (some ⟨b, 0, none⟩))) (.pair a d)) :
    Calls Tryd.prog 84 #[.pointer (some ⟨b, 0, none⟩)] W fun e w' => Cloned W L (.pair a d) e w' := by
  obtain ⟨b2, e1, hG, hh⟩ := h
  cases e1
  refine (clone_pair b a.1 a.2 d.1 d.2 W (cell_at hh) (cell_at hh) (cell_at hh) (cell_at hh)).mono ?_
  rintro e w' ⟨k, rfl, hk, hh2, hb⟩
  refine ⟨_, _, fun j => if j = k then L else 0, rfl, hb, fun j hj => ?_, k, rfl, if_pos rfl, hh2⟩
  by_cases hjk : j = k
  · subst hjk; exact ⟨hk, lt_at hh2⟩
  · exact absurd (if_neg hjk) hj
theorem clone_text_ob {W : World} {G : Nat → Nat} {L b : Nat} (s : ByteArray) (n : Nat) (h : ObAt W G L (.iface 74 (.pointer (some ⟨b, 0, none⟩))) (.text s n)) :
    Calls Tryd.prog 86 #[.pointer (some ⟨b, 0, none⟩)] W fun e w' => Cloned W L (.text s n) e w' := by
  obtain ⟨b2, e1, hG, hh⟩ := h
  cases e1
  refine (clone_text b s n W (cell_at hh) (cell_at hh)).mono ?_
  rintro e w' ⟨k, rfl, hk, hh2, hb⟩
  refine ⟨_, _, fun j => if j = k then L else 0, rfl, hb, fun j hj => ?_, k, rfl, if_pos rfl, hh2⟩
  by_cases hjk : j = k
  · subst hjk; exact ⟨hk, lt_at hh2⟩
  · exact absurd (if_neg hjk) hj
theorem clone_vec_ob {W : World} {G : Nat → Nat} {L b : Nat} (l : List Wd) (hn : l.length ≤ 65536) (h : ObAt W G L (.iface 82 (.pointer (some ⟨b, 0, none⟩))) (.vec l)) :
    Calls Tryd.prog 88 #[.pointer (some ⟨b, 0, none⟩)] W fun e w' => Cloned W L (.vec l) e w' := by
  obtain ⟨b2, sv, e1, hG, hh, hr⟩ := h
  cases e1
  obtain ⟨a, c, rfl⟩ := hr.slice
  refine (clone_vec b l.length c a (wcells l) W (cell_at hh) fun W2 hW2 => copy_word _ _ _ W2 (hr.src.below hW2 (fun k hk => hr.lt k hk)) (wcells_one l) (by omega)).mono ?_
  rintro e w' ⟨k, sv, W2, rfl, hk, rfl, ho, hb, rfl⟩
  refine ⟨_, _, fun j => if W.heap.size ≤ j ∧ j ≤ W2.heap.size then L else 0, rfl, hb.alloc hk _, fun j hj => ?_, W2.heap.size, sv, rfl, if_pos (by omega), alloc_at W2 _, ho.alloc _ |> own_base (B' := 0) (hB := Nat.zero_le _), fun k2 hk2 => ?_⟩
  · by_cases hjk : W.heap.size ≤ j ∧ j ≤ W2.heap.size
    · exact ⟨hjk.1, by simp; omega⟩
    · exact absurd (if_neg hjk) hj
  · have h5 := ho.lt k2 hk2
    simp only [if_neg (show ¬ k2 = W2.heap.size by omega)]
    exact if_pos (by omega)
theorem clone_code_ob {W : World} {G : Nat → Nat} {L b : Nat} (le mo de : Int) (bs : List UInt8) (cs : List Wd) (hn : bs.length ≤ 65536) (hn2 : cs.length ≤ 65536) (h : ObAt W G L (.iface 94 (.pointer (some ⟨b, 0, none⟩))) (.code le mo de bs cs)) :
    Calls Tryd.prog 90 #[.pointer (some ⟨b, 0, none⟩)] W fun e w' => Cloned W L (.code le mo de bs cs) e w' := by
  obtain ⟨b2, sv, cv, e1, hG, hh, hr, hr2⟩ := h
  cases e1
  obtain ⟨a, c, rfl⟩ := hr.slice
  obtain ⟨a2, c2, rfl⟩ := hr2.slice
  refine (clone_code b bs.length cs.length c c2 le mo de a a2 (bcells bs) (wcells cs) W (cell_at hh) (cell_at hh) (cell_at hh) (cell_at hh) (cell_at hh) fun W1 hW =>
    copy_code le mo de a a2 bs.length cs.length c c2 (bcells bs) (wcells cs) W1 (fun W2 hW2 => copy_byte _ _ _ W2 (hr.src.below (hW.trans (hW2.mono hW.size)) (fun k hk => hr.lt k hk)) (bcells_one bs) (by omega)) (fun W2 hW2 => copy_word _ _ _ W2 (hr2.src.below (hW.trans (hW2.mono hW.size)) (fun k hk => hr2.lt k hk)) (wcells_one cs) (by omega))).mono ?_
  rintro e w' ⟨k, vb, vc, W2, rfl, hk, rfl, ho, ho2, hb, rfl⟩
  refine ⟨_, _, fun j => if W.heap.size ≤ j ∧ j ≤ W2.heap.size then L else 0, rfl, hb.alloc hk _, fun j hj => ?_, W2.heap.size, vb, vc, rfl, if_pos (by omega), alloc_at W2 _, ⟨ho.alloc _ |> own_base (B' := 0) (hB := Nat.zero_le _), fun k2 hk2 => ?_⟩, ⟨ho2.alloc _ |> own_base (B' := 0) (hB := Nat.zero_le _), fun k2 hk2 => ?_⟩⟩
  · by_cases hjk : W.heap.size ≤ j ∧ j ≤ W2.heap.size
    · exact ⟨hjk.1, by simp; omega⟩
    · exact absurd (if_neg hjk) hj
  · have h5 := ho.lt k2 hk2
    exact if_pos (by omega)
  · have h5 := ho2.lt k2 hk2
    exact if_pos (by omega)
end Go.Proofs.YtleppjdmcjocmaaDoor
