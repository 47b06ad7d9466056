/- The law HeapHolds: the plain part. -/
import Derived.Test.YtleppjdmcjocmaaDoorHpLives
namespace Go.Proofs.YtleppjdmcjocmaaDoor
open Go.RowKit Go.Lib
/-- A slice of words that came in. -/
def ArgW (w : World) (v : Value) (L : List Wd) : Prop :=
  (v = .slice none 0 0 ∧ L = []) ∨ (∃ a c, v = .slice (some a) 0 c ∧ L = []) ∨
    (0 < L.length ∧ ∃ b o c, v = .slice (some ⟨b, o, none⟩) L.length c ∧ b < w.heap.size ∧ ∀ j a, L[j]? = some a → w.cell? ⟨b, o + j * 2, none⟩ = some (.int .i64 a.1) ∧ w.cell? ⟨b, o + j * 2 + 1, none⟩ = some (.int .i64 a.2))
theorem wcells_get (L : List Wd) (j : Nat) (u : Value) (h : (wcells L)[j]? = some u) : ∃ a, L[j / 2]? = some a ∧ ((j % 2 = 0 ∧ u = .int .i64 a.1) ∨ (j % 2 = 1 ∧ u = .int .i64 a.2)) := by
  have hl := (List.getElem?_eq_some_iff.1 h).1
  rw [wcells_length] at hl
  have hj : j / 2 < L.length := by omega
  refine ⟨L[j / 2], List.getElem?_eq_getElem hj, ?_⟩
  have h0 := wcells_fst L (j / 2) _ (List.getElem?_eq_getElem hj)
  have h1 := wcells_snd L (j / 2) _ (List.getElem?_eq_getElem hj)
  by_cases hm : j % 2 = 0
  · left
    rw [show j / 2 * 2 = j by omega, h] at h0
    exact ⟨hm, Option.some.inj h0⟩
  · right
    rw [show j / 2 * 2 + 1 = j by omega, h] at h1
    exact ⟨by omega, Option.some.inj h1⟩
theorem ArgW.src {w : World} {v : Value} {L : List Wd} (h : ArgW w v L) : ∀ W, Below w.heap.size w W → Src W 2 v L.length (wcells L) := by
  intro W hW
  rcases h with ⟨rfl, rfl⟩ | ⟨a, c, rfl, rfl⟩ | ⟨_, b, o, c, rfl, hb, hc⟩
  · exact .inl ⟨rfl, rfl, rfl⟩
  · exact .inr ⟨a, c, rfl, rfl, fun j u hu => by simp [wcells] at hu⟩
  · refine .inr ⟨_, c, rfl, wcells_length L, fun j u hu => ?_⟩
    obtain ⟨a, ha, h1⟩ := wcells_get L j u hu
    obtain ⟨h2, h3⟩ := hc _ _ ha
    have e : (⟨b, o, none⟩ : Addr).add j = ⟨b, o + j, none⟩ := by by_cases hj : j = 0 <;> simp [Addr.add, hj]
    rw [e]
    rw [hW.cell (p := ⟨b, o + j, none⟩) hb]
    rcases h1 with ⟨hm, rfl⟩ | ⟨hm, rfl⟩
    · rw [show o + j = o + j / 2 * 2 by omega]; exact h2
    · rw [show o + j = o + j / 2 * 2 + 1 by omega]; exact h3
theorem ArgW.slice {w : World} {v : Value} {L : List Wd} (h : ArgW w v L) : ∃ a c, v = .slice a L.length c := by
  rcases h with ⟨rfl, rfl⟩ | ⟨a, c, rfl, rfl⟩ | ⟨_, b, o, c, rfl, _⟩
  · exact ⟨none, 0, rfl⟩
  · exact ⟨_, c, rfl⟩
  · exact ⟨_, c, rfl⟩
theorem vec_any' {w : World} {hb : Nat} {G : Nat → Nat} {m m' : Hp} (h : HeapAt w hb G m) {al : Option Addr} {cl : Nat} {l : List Wd} {r : Wd} {er : Int} (hv : ∀ W, Below w.heap.size w W → Src W 2 (.slice al l.length cl) l.length (wcells l)) (hn : l.length ≤ 65536)
    (ha : AddsTo hb G m m' (.vec l) r er) :
    Calls Tryd.prog 17 #[hptr hb, .slice al l.length cl] w fun e w' => e = .returned (.tuple #[wv r, .int .i64 er]) ∧ Went w w' hb G m' := by
  refine (vec_walk hb er r al l.length cl (wcells l) (fun w3 => ∃ (W1 : World) (Gx : Nat → Nat), Below w.heap.size w W1 ∧ (∀ k, Gx k = 1 → w.heap.size < k) ∧ w.heap.size < W1.heap.size ∧ Keeps G W1 w3 ∧ ∃ G', HeapAt w3 hb G' m' ∧
      ∀ k, k < W1.heap.size → (G k = 0 ∧ Gx k ≠ 1 → G' k = 0) ∧ (G k ≠ 0 → G' k ≠ 0)) w hn h.valid (fun W hW => copy_word _ _ _ W (hv W hW) (wcells_one l) (by omega)) ?_).mono ?_
  · intro W a c hW k0 ho hz
    have hbl := hW.alloc (by omega) (.cells #[.slice a l.length c] 84)
    refine (ha (W.alloc (.cells #[.slice a l.length c] 84)) (fun k => if w.heap.size < k ∧ k ≤ W.heap.size then 1 else 0) _ (h.below hbl) ⟨_, _, rfl, if_pos (by omega), alloc_at W _, ho.alloc _ |> own_base (B' := 0) (hB := Nat.zero_le _), fun k hk => ?_⟩ (fun k hk e => ?_)).mono ?_
    · have h5 := ho.lt k hk
      simp only [if_neg (show ¬ k = W.heap.size by omega)]
      exact if_pos (by omega)
    · have e2 := ite_one e
      exact h.new k (by omega)
    · rintro e w3 ⟨he, hk, hrest⟩
      refine ⟨he, ?_, _, _, hbl, fun k e => ?_, by simp; omega, hk, hrest⟩
      · rw [hk.block _ (by simp; omega) (h.new _ (by omega)), Below.heap_alloc _ _ _ (by omega)]
        exact k0
      · have e2 := ite_one e
        omega
  · rintro e w' ⟨he, w3, ⟨W1, Gx, q1, q2, q3, q4⟩, hw⟩
    exact ⟨he, made (rb := w.heap.size) h.new q1 q4 (fun k e => by have := q2 k e; omega) (by omega) q3 (fun e => by have := q2 _ e; omega) hw⟩
/-- The heap of HeapHolds behind k conses. -/
def hpH (B : List (Option Ob)) (L : List Wd) (k : Nat) : Hp := ⟨200, B ++ (L.take k).map (fun a => some (.pair a (4, 0))), []⟩
theorem hpH_zero (B : List (Option Ob)) (L : List Wd) : hpH B L 0 = ⟨200, B, []⟩ := by simp [hpH]
theorem hpH_succ (B : List (Option Ob)) (L : List Wd) (k : Nat) (a : Wd) (h : L[k]? = some a) : (hpH B L k).addNew (.pair a (4, 0)) = hpH B L (k + 1) := by
  obtain ⟨hk, rfl⟩ := List.getElem?_eq_some_iff.1 h
  unfold hpH Hp.addNew
  rw [List.take_succ_eq_append_getElem hk, List.map_append, List.append_assoc]
  rfl
theorem hpH_len (B : List (Option Ob)) (L : List Wd) (k : Nat) (h : k ≤ L.length) : (hpH B L k).obs.length = B.length + k := by simp [hpH, Nat.min_eq_left h]
theorem hpH_adds {hb : Nat} {G : Nat → Nat} (B : List (Option Ob)) (L : List Wd) (k : Nat) (a : Wd) (h : L[k]? = some a) (hB : B.length ≤ 2) (hL : L.length ≤ 60) (ok : (hpH B L k).Ok) :
    AddsTo hb G (hpH B L k) (hpH B L (k + 1)) (.pair a (4, 0)) (2, ((B.length + k : Nat) : Int)) 0 := by
  have hk := (List.getElem?_eq_some_iff.1 h).1
  have hl := hpH_len B L k (by omega)
  have := adds_new (hb := hb) (G := G) (m := hpH B L k) (o := .pair a (4, 0)) rfl (by rw [hl]; show B.length + k < 200; omega) (by have := ok.store; simpa [Ob.size] using this)
  rw [hl, hpH_succ B L k a h] at this
  exact this
end Go.Proofs.YtleppjdmcjocmaaDoor
