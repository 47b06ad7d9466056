/- The contract of runes.find over any ascending table: which number it gives and whether it finds; its closure. Conditions: none but the table's cells. -/
import Derived.Test.YtjajeijeoohpoaaDoorShelf
import Derived.WalkKit
import Derived.WalkSpells
import Derived.WalkLawsBesides
import Derived.RegionTactic
import Derived.Deep.QuietTactic
import Derived.BigQuiet
import Derived.Outline
import Derived.Lib.Hide
namespace Go.Proofs.YtjajeijeoohpoaaDoor
open Go.RowKit Go.Lib Go.Shelf Go.Sort

set_option maxHeartbeats 400000 in
theorem closure_any (bc bt blk n cap : Nat) (c t : Int) (i : Nat) (W : World) (hi : (i : Int) < (n : Int)) (hc : W.cell? ⟨bc, 0, none⟩ = some (.int .i64 c)) (ht : W.cell? ⟨bt, 0, none⟩ = some (.slice (some ⟨blk, 0, none⟩) n cap)) (hcell : W.cell? ⟨blk, i * 3 + 1, none⟩ = some (.int .i64 t)) :
    Calls Tryd.prog 53 (#[.int .i64 i] ++ #[.pointer (some ⟨bc, 0, none⟩), .pointer (some ⟨bt, 0, none⟩)]) W fun e w' => e = .returned (.bool (decide (c ≤ t))) ∧ ∃ q, w' = W.drewN q := by
  go_enter Tryd.func53, Tryd.ntmps53
  go_wp2
  go_region
  all_goals go_wp2
  all_goals go_ret
  all_goals exact ⟨rfl, 1, rfl⟩

/-- How many places of the table end below c. -/
def placeOf (n : Nat) (tp : Nat → Int) (c : Int) : Nat := (List.range n).countP (fun i => !decide (c ≤ tp i))
/-- What the table's cells are. -/
def Tab (blk n : Nat) (fr tp nu : Nat → Int) (w : World) : Prop :=
  ∀ i, i < n → w.cell? ⟨blk, i * 3, none⟩ = some (.int .i64 (fr i)) ∧ w.cell? ⟨blk, i * 3 + 1, none⟩ = some (.int .i64 (tp i)) ∧ w.cell? ⟨blk, i * 3 + 2, none⟩ = some (.int .i64 (nu i))
theorem Tab.below {B blk n : Nat} {fr tp nu : Nat → Int} {w w' : World} (h : Tab blk n fr tp nu w) (hb : Below B w w') (hB : blk < B) : Tab blk n fr tp nu w' := fun i hi => by
  obtain ⟨a, b, c⟩ := h i hi
  exact ⟨by rw [hb.cell (by simpa using hB)]; exact a, by rw [hb.cell (by simpa using hB)]; exact b, by rw [hb.cell (by simpa using hB)]; exact c⟩
def findZ (n : Nat) (fr tp nu : Nat → Int) (c : Int) : Int × Bool :=
  if placeOf n tp c = n ∨ c < fr (placeOf n tp c) then (0, false) else (nu (placeOf n tp c), true)

/-- The search's contract at find's closure. -/
theorem search_at (blk n : Nat) (fr tp nu : Nat → Int) (c : Int) (W : World) (bc bt cap : Nat) (hT : Tab blk n fr tp nu W) (hn : n < 1000)
    (hc : W.cell? ⟨bc, 0, none⟩ = some (.int .i64 c)) (ht : W.cell? ⟨bt, 0, none⟩ = some (.slice (some ⟨blk, 0, none⟩) n cap))
    (hm : ∀ a b, a ≤ b → b < n → tp a ≤ tp b) :
    Calls Tryd.prog 52 #[.int .i64 n, .func (.func 53) #[] #[.pointer (some ⟨bc, 0, none⟩), .pointer (some ⟨bt, 0, none⟩)]] W fun e w' => e = .returned (.int .i64 (placeOf n tp c)) ∧ Below W.heap.size W w' := by
  refine (Any.sort_Search Tryd.search 53 #[.pointer (some ⟨bc, 0, none⟩), .pointer (some ⟨bt, 0, none⟩)] n (fun i => decide (c ≤ tp i)) W (enters_of Tryd.func53 (by kernel_rfl) rfl) (by omega) ?_ ?_).mono ?_
  · intro m os i hi
    have hb : ∀ x v, W.cell? x = some v → (grow (W.drewN m) os).cell? x = some v := fun x v h => cell_grown (World.block_lt_of_cell? _ _ h) h m os
    refine (closure_any bc bt blk n cap c (tp i) i _ (by omega) (hb _ _ hc) (hb _ _ ht) (hb _ _ (hT i hi).2.1)).mono ?_
    rintro e w' ⟨rfl, q, rfl⟩
    exact ⟨rfl, q, #[], by rw [grow_empty]⟩
  · intro a b hab hb h
    simp only [decide_eq_true_eq] at h ⊢
    have := hm a b hab hb
    omega
  · rintro e w' ⟨rfl, q, os, rfl⟩
    exact ⟨rfl, below_grown_sl _ _ _ _ (Nat.le_refl _)⟩

theorem find_world (w : World) (blk n cap : Nat) (c : Int) : 
    ((w.alloc (.cells #[.slice (some ⟨blk, 0, none⟩) n cap] 58)).alloc (.cells #[.int .i64 c] 3)).cell? ⟨w.heap.size, 0, none⟩ = some (.slice (some ⟨blk, 0, none⟩) n cap) ∧
    ((w.alloc (.cells #[.slice (some ⟨blk, 0, none⟩) n cap] 58)).alloc (.cells #[.int .i64 c] 3)).cell? ⟨w.heap.size + 1, 0, none⟩ = some (.int .i64 c) := by
  have a := cell_alloc_sl (.cells #[.int .i64 c] 3) (cell_new_sl w (.slice (some ⟨blk, 0, none⟩) n cap) 58)
  have b := cell_new_sl (w.alloc (.cells #[.slice (some ⟨blk, 0, none⟩) n cap] 58)) (.int .i64 c) 3
  refine ⟨a, ?_⟩
  simp at b ⊢

theorem below_drewN {B : Nat} {a w : World} : ∀ q, Below B a w → Below B a (w.drewN q)
  | 0, h => h
  | q + 1, h => (below_drewN q h).drew

/-- What is known behind the search. -/
theorem find_facts {w W0 W1 : World} {blk n cap : Nat} {fr tp nu : Nat → Int} {c : Int}
    (h : Below w.heap.size w W0 ∧ Tab blk n fr tp nu W0 ∧ W0.cell? ⟨w.heap.size, 0, none⟩ = some (.slice (some ⟨blk, 0, none⟩) n cap) ∧ W0.cell? ⟨w.heap.size + 1, 0, none⟩ = some (.int .i64 c) ∧ W0.heap.size = w.heap.size + 1 + 1)
    (hblk : blk < w.heap.size) (hb : Below W0.heap.size W0 W1) :
    Below w.heap.size w W1 ∧ Tab blk n fr tp nu W1 ∧ W1.cell? ⟨w.heap.size, 0, none⟩ = some (.slice (some ⟨blk, 0, none⟩) n cap) ∧ W1.cell? ⟨w.heap.size + 1, 0, none⟩ = some (.int .i64 c) := by
  obtain ⟨h1, h2, h3, h4, h5⟩ := h
  refine ⟨h1.trans (hb.mono (by omega)), h2.below hb (by omega), ?_, ?_⟩
  · rw [hb.cell (by simp; omega)]; exact h3
  · rw [hb.cell (by simp; omega)]; exact h4

set_option maxHeartbeats 1000000 in
theorem find_any (blk n cap : Nat) (fr tp nu : Nat → Int) (c : Int) (w : World) (hT : Tab blk n fr tp nu w) (hn : n < 1000) (hblk : blk < w.heap.size)
    (hm : ∀ a b, a ≤ b → b < n → tp a ≤ tp b) :
    Calls Tryd.prog 43 #[.slice (some ⟨blk, 0, none⟩) n cap, .int .i64 c] w fun e w' => e = .returned (.tuple #[.int .i64 (findZ n fr tp nu c).1, .bool (findZ n fr tp nu c).2]) ∧ Below w.heap.size w w' := by
  obtain ⟨W0, hW0⟩ : ∃ W0, (w.alloc (.cells #[.slice (some ⟨blk, 0, none⟩) n cap] 58)).alloc (.cells #[.int .i64 c] 3) = W0 := ⟨_, rfl⟩
  have hsz : W0.heap.size = w.heap.size + 1 + 1 := by rw [← hW0]; simp
  have hb0 : Below w.heap.size w W0 := by rw [← hW0]; exact ((Below.refl _ _).alloc (Nat.le_refl _) _).alloc (by simp) _
  obtain ⟨ht, hc⟩ := find_world w blk n cap c
  rw [hW0] at ht hc
  have hT0 := hT.below hb0 hblk
  have cS := search_at blk n fr tp nu c W0 (w.heap.size + 1) w.heap.size cap hT0 hn hc ht hm
  have hk : placeOf n tp c ≤ n := by unfold placeOf; simpa using List.countP_le_length (p := fun i => !decide (c ≤ tp i)) (l := List.range n)
  unfold findZ
  obtain ⟨k, hkk⟩ : ∃ k, placeOf n tp c = k := ⟨_, rfl⟩
  rw [hkk] at cS hk ⊢
  clear hkk hm
  have HB : Hid (Below w.heap.size w W0 ∧ Tab blk n fr tp nu W0 ∧ W0.cell? ⟨w.heap.size, 0, none⟩ = some (.slice (some ⟨blk, 0, none⟩) n cap) ∧ W0.cell? ⟨w.heap.size + 1, 0, none⟩ = some (.int .i64 c) ∧ W0.heap.size = w.heap.size + 1 + 1) := Lib.hid ⟨hb0, hT0, ht, hc, hsz⟩
  clear hb0 hT0 ht hc hsz hT
  have cS' := cS.mono (fun e W1 (h : _ ∧ _) => (⟨h.1, Lib.hid (find_facts HB.out hblk h.2)⟩ : e = .returned (.int .i64 k) ∧ Hid (Below w.heap.size w W1 ∧ Tab blk n fr tp nu W1 ∧ W1.cell? ⟨w.heap.size, 0, none⟩ = some (.slice (some ⟨blk, 0, none⟩) n cap) ∧ W1.cell? ⟨w.heap.size + 1, 0, none⟩ = some (.int .i64 c))))
  clear cS HB
  rw [← hW0] at cS'
  clear hW0
  by_cases hkn : k = n
  · rw [if_pos (Or.inl hkn)]
    subst hkn
    go_enter Tryd.func43, Tryd.ntmps43
    go_wp2_with (go_at_call 52; refine cS'.mono ?_; rintro e W1 ⟨rfl, HF⟩)
    have g1 := HF.out.2.2.1
    clear cS'
    go_quiet (fail)
    go_wp2
    go_ret2
    exact ⟨rfl, below_drewN _ HF.out.1⟩
  · have hlt : k < n := by omega
    have hltz : (k : Int) < (n : Int) := by omega
    have hkz : ((k : Int) == (n : Int)) = false := by simp; omega
    by_cases hlow : c < fr k
    · rw [if_pos (Or.inr hlow)]
      go_enter Tryd.func43, Tryd.ntmps43
      go_wp2_with (go_at_call 52; refine cS'.mono ?_; rintro e W1 ⟨rfl, HF⟩)
      have g1 := HF.out.2.2.1
      have g2 := HF.out.2.2.2
      have g3 := (HF.out.2.1 k hlt).1
      clear cS'
      go_quiet (fail)
      go_wp2
      go_ret2
      exact ⟨rfl, below_drewN _ HF.out.1⟩
    · rw [if_neg (by omega)]
      go_enter Tryd.func43, Tryd.ntmps43
      go_wp2_with (go_at_call 52; refine cS'.mono ?_; rintro e W1 ⟨rfl, HF⟩)
      have g1 := HF.out.2.2.1
      have g2 := HF.out.2.2.2
      have g3 := (HF.out.2.1 k hlt).1
      have g4 := (HF.out.2.1 k hlt).2.2
      clear cS'
      go_quiet (fail)
      go_wp2
      go_ret2
      exact ⟨rfl, below_drewN _ HF.out.1⟩
end Go.Proofs.YtjajeijeoohpoaaDoor
