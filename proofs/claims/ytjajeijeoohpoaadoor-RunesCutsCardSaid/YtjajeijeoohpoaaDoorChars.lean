/- The contracts of runes.Is, Width, Up, Down, Fold and Word, for every integer; tables of spans as lists. Conditions: none. -/
import Derived.Test.YtjajeijeoohpoaaDoorFind
import Derived.Great.Walk
import Derived.IntWalk
namespace Go.Proofs.YtjajeijeoohpoaaDoor
open Go.RowKit Go.Lib Go.Shelf Go.Sort
theorem setRow_alloc (w : World) (old cs : Array Value) (t : TypeId) : (w.alloc (.cells old t)).setRow w.heap.size cs = w.alloc (.cells cs t) := by
  unfold World.setRow World.alloc
  congr 1
  apply Array.ext
  · simp
  · intro i h1 h2
    simp only [Array.getElem_modify, Array.getElem_push]
    by_cases hi : i < w.heap.size
    · have : ¬ w.heap.size = i := by omega
      simp [hi, this]
    · have : w.heap.size = i := by simp at h1; omega
      simp [this]
theorem wpList_store_new {P : Program} {ops : Array Oper} {rest : List Oper} {o : Oper} {a : Act} {w : World} {Q : Exit → Act → World → Prop} (hgd : o.guard = none) (ty : TypeId) (x y : Operand) (ho : o.op = .store ty x y)
    (hd : o.dst = none) (cells : Array Value) (t : TypeId) (old : Array Value) (hx : a.eval x = .pointer (some ⟨w.heap.size, 0, none⟩)) (hy : a.eval y = .agg cells)
    (hi : (P.info? ty).map (·.size) = some cells.size)
    (hold : old.size = cells.size) (h1 : cells.all (·.oneCell') = true)
    (h : wpList P ops Q rest a (w.alloc (.cells cells t))) : wpList P ops Q (o :: rest) a (w.alloc (.cells old t)) :=
  wpList_store_rowTo hgd ty x y ho hd w.heap.size cells hx hy t old (heap_alloc_new w _) hi hold h1 (by rw [setRow_alloc]; exact h)

/-! Tables of spans as lists. -/
def frOf (l : List (Int × Int × Int)) (i : Nat) : Int := ((l[i]?).getD (0, 0, 0)).1
def toOf (l : List (Int × Int × Int)) (i : Nat) : Int := ((l[i]?).getD (0, 0, 0)).2.1
def nuOf (l : List (Int × Int × Int)) (i : Nat) : Int := ((l[i]?).getD (0, 0, 0)).2.2
def cellsOf (l : List (Int × Int × Int)) : Array Value := (l.flatMap fun x => [Value.int .i64 x.1, Value.int .i64 x.2.1, Value.int .i64 x.2.2]).toArray
theorem cellsOf_at : ∀ (l : List (Int × Int × Int)) (i : Nat), i < l.length → (cellsOf l)[i * 3]? = some (.int .i64 (frOf l i)) ∧ (cellsOf l)[i * 3 + 1]? = some (.int .i64 (toOf l i)) ∧ (cellsOf l)[i * 3 + 2]? = some (.int .i64 (nuOf l i))
  | [], i, h => absurd h (Nat.not_lt_zero _)
  | x :: l, 0, _ => by simp [cellsOf, frOf, toOf, nuOf]
  | x :: l, i + 1, h => by
    have ih := cellsOf_at l i (by simpa using h)
    simp only [cellsOf, List.getElem?_toArray, List.flatMap_cons] at ih ⊢
    rw [show (i + 1) * 3 = i * 3 + 1 + 1 + 1 by omega]
    simpa [frOf, toOf, nuOf] using ih
theorem tab_new (l : List (Int × Int × Int)) (w : World) (t : TypeId) : Tab w.heap.size l.length (frOf l) (toOf l) (nuOf l) (w.alloc (.cells (cellsOf l) t)) := fun i hi => by
  obtain ⟨a, b, c⟩ := cellsOf_at l i hi
  exact ⟨by rw [World.cell?_alloc_at _ _ _ _ rfl]; exact a, by rw [World.cell?_alloc_at _ _ _ _ rfl]; exact b, by rw [World.cell?_alloc_at _ _ _ _ rfl]; exact c⟩
/-- Looking a number up in a list of ascending spans. -/
def findL : List (Int × Int × Int) → Int → Int × Bool
  | [], _ => (0, false)
  | x :: l, c => if c ≤ x.2.1 then (if c < x.1 then (0, false) else (x.2.2, true)) else findL l c
theorem placeOf_succ (n : Nat) (tp : Nat → Int) (c : Int) : placeOf (n + 1) tp c = (if c ≤ tp 0 then 0 else 1) + placeOf n (fun i => tp (i + 1)) c := by
  unfold placeOf
  rw [List.range_succ_eq_map, List.countP_cons, List.countP_map, Nat.add_comm]
  congr 1
  by_cases h : c ≤ tp 0 <;> simp [h]
theorem placeOf_zero (n : Nat) (tp : Nat → Int) (c : Int) (h : ∀ i, i < n → c ≤ tp i) : placeOf n tp c = 0 := by
  unfold placeOf
  rw [List.countP_eq_zero]
  intro i hi
  have := h i (by simpa using hi)
  simp [this]
theorem findZ_eq : ∀ (l : List (Int × Int × Int)) (c : Int), (∀ b, b < l.length → ∀ a, a ≤ b → toOf l a ≤ toOf l b) → findZ l.length (frOf l) (toOf l) (nuOf l) c = findL l c
  | [], c, _ => by simp [findZ, findL, placeOf]
  | x :: l, c, h => by
    by_cases hc : c ≤ x.2.1
    · have hz : placeOf (l.length + 1) (toOf (x :: l)) c = 0 := placeOf_zero _ _ _ fun i hi => by
        have := h i (by simpa using hi) 0 (Nat.zero_le _)
        have e0 : toOf (x :: l) 0 = x.2.1 := rfl
        omega
      simp only [findZ, List.length_cons, hz, findL, if_pos hc]
      by_cases hf : c < x.1
      · rw [if_pos (Or.inr (by simpa [frOf] using hf)), if_pos hf]
      · rw [if_neg (by simp [frOf]; omega), if_neg hf]
        rfl
    · have e1 : placeOf (l.length + 1) (toOf (x :: l)) c = 1 + placeOf l.length (toOf l) c := by
        rw [placeOf_succ]
        have e0 : toOf (x :: l) 0 = x.2.1 := rfl
        rw [e0, if_neg hc]
        rfl
      have ih := findZ_eq l c (fun b hb a hab => h (b + 1) (by simpa using hb) (a + 1) (by omega))
      rw [findL, if_neg hc, ← ih]
      simp only [findZ, List.length_cons, e1]
      have e2 : frOf (x :: l) (1 + placeOf l.length (toOf l) c) = frOf l (placeOf l.length (toOf l) c) := by rw [Nat.add_comm]; rfl
      have e3 : nuOf (x :: l) (1 + placeOf l.length (toOf l) c) = nuOf l (placeOf l.length (toOf l) c) := by rw [Nat.add_comm]; rfl
      rw [e2, e3]
      by_cases hk : placeOf l.length (toOf l) c = l.length ∨ c < frOf l (placeOf l.length (toOf l) c)
      · rw [if_pos hk, if_pos (by omega)]
      · rw [if_neg hk, if_neg (by omega)]
/-- find over a table that has just been laid. -/
theorem find_new (l : List (Int × Int × Int)) (hs : ∀ b, b < l.length → ∀ a, a ≤ b → toOf l a ≤ toOf l b) (hn : l.length < 1000) (t : TypeId) (c : Int) (w : World) (n : Nat) (hln : l.length = n) :
    Calls Tryd.prog 43 #[.slice (some ⟨w.heap.size, 0, none⟩) n n, .int .i64 c] (w.alloc (.cells (cellsOf l) t)) fun e w' => e = .returned (.tuple #[.int .i64 (findL l c).1, .bool (findL l c).2]) ∧ Below w.heap.size w w' := by
  subst hln
  rw [← findZ_eq l c hs]
  refine (find_any w.heap.size l.length l.length (frOf l) (toOf l) (nuOf l) c _ (tab_new l w t) hn (by simp) (fun a b hab hb => hs b hb a hab)).mono ?_
  rintro e w' ⟨he, hb⟩
  exact ⟨he, ((Below.refl _ _).alloc (Nat.le_refl _) _).trans (hb.mono (by simp))⟩
def spansUp : List (Int × Int × Int) := [(97, 122, 32), (224, 246, 32), (248, 254, 32), (945, 961, 32), (962, 962, 31), (963, 969, 32), (1072, 1103, 32), (1104, 1119, 80)]
theorem spansUp_up : ∀ b, b < spansUp.length → ∀ a, a ≤ b → toOf spansUp a ≤ toOf spansUp b := by decide
def spansDown : List (Int × Int × Int) := [(65, 90, 32), (192, 214, 32), (216, 222, 32), (913, 929, 32), (931, 937, 32), (1024, 1039, 80), (1040, 1071, 32)]
theorem spansDown_up : ∀ b, b < spansDown.length → ∀ a, a ≤ b → toOf spansDown a ≤ toOf spansDown b := by decide
def spansWidth : List (Int × Int × Int) := [(0, 8, 2), (10, 31, 2), (127, 127, 2), (768, 879, 0), (1155, 1161, 0), (1425, 1469, 0), (4352, 4447, 2), (8203, 8207, 0), (8400, 8447, 0), (11904, 12350, 2), (12353, 42191, 2), (44032, 55203, 2), (63744, 64255, 2), (65024, 65039, 0), (65056, 65071, 0), (65072, 65135, 2), (65280, 65376, 2), (65504, 65510, 2), (127744, 128591, 2), (129280, 129535, 2), (131072, 262141, 2)]
theorem spansWidth_up : ∀ b, b < spansWidth.length → ∀ a, a ≤ b → toOf spansWidth a ≤ toOf spansWidth b := by decide
def spansWord : List (Int × Int × Int) := [(48, 57, 0), (65, 90, 0), (97, 122, 0), (170, 170, 0), (181, 181, 0), (186, 186, 0), (192, 214, 0), (216, 246, 0), (248, 591, 0), (768, 893, 0), (895, 902, 0), (904, 1023, 0), (1024, 1327, 0), (1488, 1514, 0), (12353, 12543, 0), (13312, 40959, 0), (44032, 55203, 0), (131072, 262141, 0)]
theorem spansWord_up : ∀ b, b < spansWord.length → ∀ a, a ≤ b → toOf spansWord a ≤ toOf spansWord b := by decide

set_option maxHeartbeats 1000000 in
theorem up_core (c m : Int) (fb : Bool) (w : World) (h1 : -9223372036854775808 ≤ c - m) (h2 : c - m ≤ 9223372036854775807)
    (cF : Calls Tryd.prog 43 #[.slice (some ⟨w.heap.size, 0, none⟩) 8 8, .int .i64 c] (w.alloc (.cells (cellsOf spansUp) 59)) fun e w' => e = .returned (.tuple #[.int .i64 m, .bool fb]) ∧ Below w.heap.size w w') :
    Calls Tryd.prog 16 #[.int .i64 c] w fun e w' => e = .returned (.int .i64 (c - m)) ∧ Below w.heap.size w w' := by
  go_enter Tryd.func16, Tryd.ntmps16
  go_wp2_with (first | (refine wpList_buildTo rfl 59 _ rfl _ rfl (cellsOf spansUp) (by kernel_rfl) ?_) | (refine wpList_store_new rfl 59 _ _ rfl rfl (cellsOf spansUp) _ _ rfl rfl (by kernel_rfl) (by kernel_rfl) (by kernel_rfl) ?_) | (go_at_call 43; refine cF.mono ?_; rintro e w' ⟨rfl, hb⟩))
  go_ret
  exact ⟨rfl, hb⟩

set_option maxHeartbeats 1000000 in
theorem down_core (c m : Int) (fb : Bool) (w : World) (h1 : -9223372036854775808 ≤ c + m) (h2 : c + m ≤ 9223372036854775807)
    (cF : Calls Tryd.prog 43 #[.slice (some ⟨w.heap.size, 0, none⟩) 7 7, .int .i64 c] (w.alloc (.cells (cellsOf spansDown) 60)) fun e w' => e = .returned (.tuple #[.int .i64 m, .bool fb]) ∧ Below w.heap.size w w') :
    Calls Tryd.prog 18 #[.int .i64 c] w fun e w' => e = .returned (.int .i64 (c + m)) ∧ Below w.heap.size w w' := by
  go_enter Tryd.func18, Tryd.ntmps18
  go_wp2_with (first | (refine wpList_buildTo rfl 60 _ rfl _ rfl (cellsOf spansDown) (by kernel_rfl) ?_) | (refine wpList_store_new rfl 60 _ _ rfl rfl (cellsOf spansDown) _ _ rfl rfl (by kernel_rfl) (by kernel_rfl) (by kernel_rfl) ?_) | (go_at_call 43; refine cF.mono ?_; rintro e w' ⟨rfl, hb⟩))
  go_ret
  exact ⟨rfl, hb⟩
end Go.Proofs.YtjajeijeoohpoaaDoor
