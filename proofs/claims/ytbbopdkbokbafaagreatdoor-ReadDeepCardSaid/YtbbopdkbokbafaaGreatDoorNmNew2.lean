/- The contract of New: a table with the fixed symbols. -/
import Derived.Test.YtbbopdkbokbafaaGreatDoorNmNew
namespace Go.Proofs.YtbbopdkbokbafaaGreatDoor
open Go.RowKit Go.Lib Go.Shelf
/-- The table that New makes. -/
def tbN : Tb := tb0.addAll fixedN
theorem tbN_length : tbN.syms.length = 62 := by
  unfold tbN
  rw [addAll_syms, List.length_map, fixed_length]
set_option maxHeartbeats 4000000 in
set_option maxRecDepth 20000 in
theorem addFixed_any {w : World} {tb : Nat} {G : Nat → Nat} (h : TableAt w tb G tb0) :
    Calls Tryz.prog 108 #[hptr tb] w fun e w' => e = .returned (.tuple #[]) ∧ WentT w w' tb G tbN := by
  have hbl := (Below.refl w.heap.size w).alloc (Nat.le_refl _) (.cells (fixedN.map Value.string).toArray 9)
  have cA : ∀ arr, arr = (fixedN.map Value.string).toArray → Calls Tryz.prog 156 #[hptr tb, .slice (some ⟨w.heap.size, 0, none⟩) 62 62] (w.alloc (.cells arr 9)) fun e w' => e = .returned (.tuple #[]) ∧ WentT w w' tb G tbN := by
    rintro arr rfl
    refine (addAll_any (h.below hbl) fixedN (h.new _ (Nat.le_refl _)) (by simp) (fun j s hj => ?_) fixed_size (by rw [fixed_length]; decide) fixed_new (fun k hk => ?_)).mono ?_
    · rw [cell_at (alloc_at w _)]
      simp [List.getElem?_map, hj]
    · rw [addAll_syms, List.length_map, List.length_take, Nat.min_eq_left hk]
      simp [tb0]
    · rintro e w' ⟨he, hw⟩
      exact ⟨he, WentT.after hbl hw⟩
  have CA := Lib.hid cA
  clear h hbl cA
  go_enter Tryz.func108, Tryz.ntmps108
  go_wp2_with fail
  refine (CA.out _ rfl).mono ?_
  rintro e W ⟨rfl, hw⟩
  have HW := Lib.hid hw
  clear hw CA
  go_wp2
  go_end0
  exact ⟨rfl, HW.out⟩
theorem tb0_ok : tb0.Ok := ⟨by decide, (fun y hy => by cases hy), fun s => rfl⟩
theorem tb0_at (w : World) : TableAt ((w.alloc (.map #[] 0)).alloc (.cells #[.slice none 0 0, .map (some w.heap.size)] 139)) (w.heap.size + 1) (fun k => if k = w.heap.size then 3 else if k = w.heap.size + 1 then 1 else 0) tb0 := by
  have h2 := alloc_at (w.alloc (.map #[] 0)) (.cells #[.slice none 0 0, .map (some w.heap.size)] 139)
  rw [show (w.alloc (.map #[] 0)).heap.size = w.heap.size + 1 from by simp] at h2
  refine ⟨tb0_ok, fun k hk => ?_, by rw [if_neg (by omega), if_pos rfl], .slice none 0 0, w.heap.size, [], h2, rfl, Row.nil _ _ _ _ _, if_pos rfl, (World.ownsMap_made w _ _ _).alloc _, fun i s v hi => by simp at hi⟩
  simp at hk
  rw [if_neg (by omega), if_neg (by omega)]
set_option maxHeartbeats 1000000 in
theorem tnew_any (w : World) : Calls Tryz.prog 60 #[] w fun e w' => ∃ tb G, e = .returned (hptr tb) ∧ Below w.heap.size w w' ∧ TableAt w' tb G tbN ∧ ∀ k, k < w.heap.size → G k = 0 := by
  have h0 := tb0_at w
  have CF := Lib.hid (addFixed_any h0)
  have hmm := @run_makeMap Tryz.prog
  have hbl : Below w.heap.size w ((w.alloc (.map #[] 0)).alloc (.cells #[.slice none 0 0, .map (some w.heap.size)] 139)) := ((Below.refl _ _).alloc (Nat.le_refl _) _).alloc (by simp) _
  have HB := Lib.hid hbl
  clear h0 hbl
  go_enter Tryz.func60, Tryz.ntmps60
  go_wp2_with fail
  refine CF.out.mono ?_
  rintro e W ⟨rfl, hk, G, ht, hz⟩
  have HT := Lib.hid (And.intro hk (And.intro ht hz))
  clear hk ht hz CF
  go_wp2
  go_ret
  obtain ⟨hk, ht, hz⟩ := HT.out
  refine ⟨_, G, rfl, HB.out.trans (hk.below HB.out.size (fun k hk2 => ?_)), ht, fun k hk2 => (hz k (by simp; omega)).2 ?_⟩
  · rw [if_neg (by omega), if_neg (by omega)]
  · rw [if_neg (by omega), if_neg (by omega)]
end Go.Proofs.YtbbopdkbokbafaaGreatDoor
