/- The sorted keys of a map. -/
import Derived.Test.YtgkblfegjmeolaaVaLocals
import Derived.Test.YtgkblfegjmeolaaVaShelf3
import Derived.Test.YtgkblfegjmeolaaVaCopyW
import Derived.Maps.Ext
namespace Go.Proofs.Ytgkblfegjmeolaa
open Go.RowKit Go.Maps Go.Sort Go.Shelf
/-- The keys of f, rising. -/
def Sk (f : Nat → Option Value) (ks : List Nat) : Prop := ks.Pairwise (· < ·) ∧ ∀ k, k ∈ ks ↔ f k ≠ none
theorem sk_of {R : RD} {D : DataW Unit} {f : Nat → Option Value} (h : Looks R D f) (hc : Canon D) {ss : List Int} (hp : ss.Perm (intKeys D)) : ∃ ks : List Nat, (ss.mergeSort fun x y => decide (x ≤ y)) = ks.map (fun k : Nat => (k : Int)) ∧ Sk f ks ∧ ks.length = Maps.size D ∧ ks.length = ss.length := by
  obtain ⟨es, rfl, hpw, _⟩ := hc
  have hperm := (List.mergeSort_perm ss fun x y => decide (x ≤ y)).trans hp
  have hkey : ∀ p ∈ es, ∃ k : Nat, p.1 = ikl k ∧ f k ≠ none := fun p hp => h.only es rfl p hp
  have hmem : ∀ x, x ∈ intKeys (.map es : DataW Unit) → ∃ k : Nat, x = (k : Int) ∧ f k ≠ none := by
    intro x hx
    obtain ⟨p, hp, rfl⟩ := List.mem_map.1 hx
    obtain ⟨k, hk, hf⟩ := hkey p hp
    exact ⟨k, by rw [hk]; rfl, hf⟩
  have hnd : (intKeys (.map es : DataW Unit)).Nodup := by
    unfold intKeys
    rw [List.Nodup, List.pairwise_map]
    refine (apart_of_rising hpw).imp_of_mem fun {p q} hp hq hne e => hne ?_
    obtain ⟨k, hk, _⟩ := hkey p hp
    obtain ⟨j, hj, _⟩ := hkey q hq
    rw [hk, hj] at e ⊢
    have : (k : Int) = (j : Int) := e
    show Lit.int .i64 (k : Int) = Lit.int .i64 (j : Int)
    rw [this]
  generalize ht : (ss.mergeSort fun x y => decide (x ≤ y)) = t at *
  have hs : t.Pairwise (· ≤ ·) := by
    have := List.pairwise_mergeSort (le := fun x y : Int => decide (x ≤ y)) (fun a b c => by simp only [decide_eq_true_eq]; omega) (fun a b => by simp only [Bool.or_eq_true, decide_eq_true_eq]; omega) ss
    rw [ht] at this
    exact this.imp fun {a b} e => by simpa using e
  have hnt : t.Nodup := hperm.nodup_iff.2 hnd
  have hcast : t = (t.map Int.toNat).map (fun k : Nat => (k : Int)) := by
    rw [List.map_map]
    conv => lhs; rw [← List.map_id t]
    refine List.map_congr_left fun x hx => ?_
    obtain ⟨k, rfl, _⟩ := hmem x (hperm.mem_iff.1 hx)
    rfl
  refine ⟨t.map Int.toNat, hcast, ⟨?_, fun k => ⟨fun hk => ?_, fun hf => ?_⟩⟩, ?_, ?_⟩
  · rw [List.pairwise_map]
    refine (hs.and hnt).imp_of_mem fun {a b} ha hb hab => ?_
    obtain ⟨k, rfl, _⟩ := hmem a (hperm.mem_iff.1 ha)
    obtain ⟨j, rfl, _⟩ := hmem b (hperm.mem_iff.1 hb)
    have h1 := hab.1
    have h2 := hab.2
    show k < j
    have : k ≠ j := fun e => h2 (by rw [e])
    omega
  · obtain ⟨x, hx, rfl⟩ := List.mem_map.1 hk
    obtain ⟨j, rfl, hf⟩ := hmem x (hperm.mem_iff.1 hx)
    exact hf
  · have hk := h.here k
    cases hfk : f k with
    | none => exact absurd hfk hf
    | some v =>
      rw [hfk] at hk
      have hh := hk.1
      rw [has_eq, List.any_eq_true] at hh
      obtain ⟨p, hp, hs⟩ := hh
      obtain ⟨j, hj, _⟩ := hkey p hp
      rw [hj] at hs
      have e : j = k := by
        have : (j : Int) = (k : Int) := by simpa [Lit.sameKey] using hs
        omega
      subst e
      refine List.mem_map.2 ⟨(j : Int), hperm.mem_iff.2 (List.mem_map.2 ⟨p, hp, by rw [hj]; rfl⟩), rfl⟩
  · rw [List.length_map, hperm.length_eq]
    show (es.map _).length = es.length
    rw [List.length_map]
  · rw [List.length_map, ← ht, List.length_mergeSort]
/-- A slice of the numbers ks. -/
def SlI (w w' : World) (v : Value) (ks : List Nat) : Prop := (v = .slice none 0 0 ∧ ks = []) ∨ ∃ g cap, v = .slice (some ⟨g, 0, none⟩) ks.length cap ∧ w.heap.size ≤ g ∧ g < w'.heap.size ∧ ∀ (i k : Nat), ks[i]? = some k → w'.cell? ⟨g, i, none⟩ = some (.int .i64 (k : Int))
end Go.Proofs.Ytgkblfegjmeolaa
