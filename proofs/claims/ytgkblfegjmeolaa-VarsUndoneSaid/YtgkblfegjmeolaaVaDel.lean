/- slices.Delete of a row's end. -/
import Derived.Test.YtgkblfegjmeolaaVaBind
import Derived.Laws.CopyRow
import Derived.Laws.Tables
namespace Go.Proofs.Ytgkblfegjmeolaa
open Go.RowKit Go.Lib
abbrev zbind : Array Value := #[.int .i64 0, .int .i64 0, .bool false, .nilFunc]
theorem zeroB (w : World) : (zeroValue 68).run Try.prog w = .ok (.agg zbind) w := by kernel_rfl
theorem zcells_len (n : Nat) : (Builtin.zeroCells zbind n).toList.length = n * 4 := by simp [Builtin.zeroCells]
theorem zcells_one (n : Nat) : ∀ u ∈ (Builtin.zeroCells zbind n).toList, u.oneCell' = true := by
  intro u hu
  simp only [Builtin.zeroCells, Array.toList_map, List.mem_map] at hu
  obtain ⟨i, _, rfl⟩ := hu
  have h4 : i % zbind.size < 4 := Nat.mod_lt _ (by decide)
  have : i % zbind.size = 0 ∨ i % zbind.size = 1 ∨ i % zbind.size = 2 ∨ i % zbind.size = 3 := by omega
  rcases this with e | e | e | e <;> rw [e] <;> rfl
theorem run_clear_b {w : World} {g o n c : Nat} {cur : Array Value} (hg : w.heap[g]? = some (.cells cur 68 (0, 0))) (hn : 0 < n) (hfit : o + n * 4 ≤ cur.size) (ty : TypeId) :
    (Builtin.clear_ #[56] ty #[.slice (some ⟨g, o, none⟩) n c]).run Try.prog w = .ok (.tuple #[]) (w.setRow g (cur.toList.take o ++ (Builtin.zeroCells zbind n).toList ++ cur.toList.drop (o + n * 4)).toArray) := by
  have hst := run_storeCells_at Try.prog g o 68 (Builtin.zeroCells zbind n).toList 0 cur w hg (by rw [zcells_len]; omega) (zcells_one n)
  rw [zcells_len] at hst
  simp only [Nat.add_zero] at hst
  obtain ⟨m, rfl⟩ : ∃ m, n = m + 1 := ⟨n - 1, by omega⟩
  simp [Builtin.clear_, run_underlying Try.underlying56, hst, Value.cells]
theorem run_app0 {w : World} (g i c : Nat) (ad : Addr) (c2 : Nat) (hi : i ≤ c) (ty : TypeId) :
    (Builtin.append_ #[56, 56] ty #[.slice (some ⟨g, 0, none⟩) i c, .slice (some ad) 0 c2]).run Try.prog w = .ok (.slice (some ⟨g, 0, none⟩) i c) w := by
  obtain ⟨i0, hi0, hz0, hz1, hz2⟩ := info_parts info_bind
  have hf := run_firstCells_some (P := Try.prog) w i0.size 0 ad 0 c2 [] (by simp) (by simp)
  have hst : ∀ a : Addr, (storeCells a [] 0).run Try.prog w = .ok () w := fun a => rfl
  simp [Builtin.append_, run_underlying Try.underlying56, sizeOf, typeInfo, hi0, Builtin.lenOf, hi, hf, hst]
theorem step_app0 {ops : Array Oper} {o : Oper} {a : Act} {w : World} {K : Act → World → Prop} {Q : Exit → Act → World → Prop} {E : Prop} (hg : o.guard = none) (s x : Operand)
    (ho : o.op = .call { callee := .builtin .append, args := #[s, x], argTypes := #[56, 56] })
    (g i c : Nat) (hs : a.eval s = .slice (some ⟨g, 0, none⟩) i c) (ad : Addr) (c2 : Nat) (hx : a.eval x = .slice (some ad) 0 c2) (hi : i ≤ c) (h : K (a.put o.dst (.slice (some ⟨g, 0, none⟩) i c)) w) :
    if Region.wanted o (yielded ops a.tmps) = true then Oper.wp Try.prog o a w K Q else E := by
  have hw : Region.wanted o (yielded ops a.tmps) = true := by simp [Region.wanted, hg]
  rw [if_pos hw]
  have hr := run_app0 (w := w) g i c ad c2 hi o.type
  unfold Oper.wp execOp
  simp only [ho, resolve, invoke, builtin, Sem.run_bind, Sem.run_pure, Result.andThen_ok, List.map_toArray, List.map_cons, List.map_nil, hs, hx, hr]
  exact h
theorem bcells_length (l : List Bd) : (bcells l).length = l.length * 4 := by
  induction l with
  | nil => rfl
  | cons p l ih => simp only [bcells, List.flatMap_cons, List.length_append, List.length_cons, List.length_nil] at ih ⊢; omega
theorem bcells_take (l : List Bd) (i : Nat) : (bcells l).take (i * 4) = bcells (l.take i) := by
  induction l generalizing i with
  | nil => simp [bcells]
  | cons b l ih =>
    cases i with
    | zero => simp [bcells]
    | succ i =>
      have := ih i
      simp only [bcells, List.take_succ_cons, List.flatMap_cons] at this ⊢
      rw [show (i + 1) * 4 = 4 + i * 4 by omega, List.take_append, List.take_of_length_le (by simp), ← this]
      simp
/-- What Delete leaves of a row. -/
structure Cut (w w' : World) (G : Nat → Nat) (v v' : Value) (i : Nat) (bs : List Bd) : Prop where
  row : Row w' G 4 68 4 v' i (bcells (bs.take i))
  grown : w.grownBy w' v.ownBlock
  size : w'.heap.size = w.heap.size
theorem Cut.same {w : World} {G : Nat → Nat} {a : Option Addr} {n c : Nat} {bs : List Bd} (h : Row w G 4 68 4 (.slice a n c) n (bcells bs)) (hn : bs.length = n) : Cut w w G (.slice a n c) (.slice a n c) n bs :=
  ⟨by rw [List.take_of_length_le (by omega)]; exact h, ⟨rfl, rfl, rfl, Nat.le_refl _, fun _ _ _ => rfl⟩, rfl⟩
theorem Cut.drew {w w' : World} {G : Nat → Nat} {v v' : Value} {i : Nat} {bs : List Bd} (h : Cut w w' G v v' i bs) : Cut w w'.drew G v v' i bs :=
  ⟨⟨h.row.own.drew, h.row.lab⟩, ⟨h.grown.os, h.grown.tape, h.grown.output, h.grown.size, h.grown.block⟩, h.size⟩
theorem Row.cut {w : World} {G : Nat → Nat} {g n c : Nat} {bs : List Bd} {cur : Array Value} (h : Row w G 4 68 4 (.slice (some ⟨g, 0, none⟩) n c) n (bcells bs)) (hg : w.heap[g]? = some (.cells cur 68 (0, 0))) (hcs : cur.size = c * 4) (hct : cur.toList.take (n * 4) = bcells bs) (hnc : n ≤ c) (hcm : c ≤ maxLen) {i : Nat} (hi : i < n) :
    Cut w (w.setRow g (cur.toList.take (i * 4) ++ (Builtin.zeroCells zbind (n - i)).toList ++ cur.toList.drop (i * 4 + (n - i) * 4)).toArray) G (.slice (some ⟨g, 0, none⟩) n c) (.slice (some ⟨g, 0, none⟩) i c) i bs := by
  have hl : cur.toList.length = c * 4 := by simpa using hcs
  have hz := zcells_len (n - i)
  have hlt : (cur.toList.take (i * 4)).length = i * 4 := by rw [List.length_take, hl]; omega
  refine ⟨⟨⟨?_, .inr ⟨g, c, _, rfl, Nat.zero_le _, setRow_heap w g cur _ _ _ hg, by omega, hcm, ?_, ?_⟩⟩, fun k hk => h.lab k (by cases hk; rfl)⟩, ⟨rfl, rfl, rfl, by simp, fun k hk hne => setRow_other w g k _ (fun e => hne (by rw [e]; rfl))⟩, by simp⟩
  · rw [bcells_length, List.length_take]
    have := h.own.1
    rw [bcells_length] at this
    omega
  · simp only [List.size_toArray, List.length_append, hz, List.length_drop, hl, hlt]
    omega
  · have e1 : (cur.toList.take (i * 4) ++ (Builtin.zeroCells zbind (n - i)).toList ++ cur.toList.drop (i * 4 + (n - i) * 4)).take (i * 4) = cur.toList.take (i * 4) := by
      rw [List.append_assoc, List.take_append_of_le_length (by rw [hlt]; exact Nat.le_refl _), List.take_of_length_le (by rw [hlt]; exact Nat.le_refl _)]
    show (cur.toList.take (i * 4) ++ (Builtin.zeroCells zbind (n - i)).toList ++ cur.toList.drop (i * 4 + (n - i) * 4)).take (i * 4) = _
    rw [e1, ← bcells_take, ← hct, List.take_take, Nat.min_eq_left (by omega)]
set_option maxHeartbeats 2000000 in
set_option maxRecDepth 100000 in
theorem delete_any {w : World} {G : Nat → Nat} {a : Option Addr} {n c : Nat} {bs : List Bd} (h : Row w G 4 68 4 (.slice a n c) n (bcells bs)) (hn : bs.length = n) (hn2 : n ≤ 2000) (i : Nat) (hi : i ≤ n) :
    Calls Try.prog 50 #[.slice a n c, .int .i64 i, .int .i64 n] w fun e w' => ∃ v', e = .returned v' ∧ Cut w w' G (.slice a n c) v' i bs := by
  rcases h.own.2 with ⟨hv, hn0⟩ | ⟨g, cap, cur, hv, _, hg, hnc, hcm, hcs, hct⟩
  · cases hv
    obtain rfl : i = 0 := by omega
    have H := Lib.hid (Cut.same h hn)
    clear h hn hn2 hi
    go_enter Try.func50, Try.ntmps50
    go_wp2
    go_ret
    exact ⟨_, rfl, H.out⟩
  · cases hv
    have hcI : (n : Int) ≤ (c : Int) := by omega
    by_cases e : i = n
    · subst e
      have H := Lib.hid (Cut.same h hn)
      clear h hn hi hg hcm hcs hct
      go_enter Try.func50, Try.ntmps50
      go_wp2
      all_goals (go_ret; exact ⟨_, rfl, H.out⟩)
    · have hlt : i < n := by omega
      have hltI : (i : Int) < (n : Int) := by omega
      have hne : ((i : Int) == (n : Int)) = false := by rw [beq_eq_false_iff_ne]; omega
      have hcl := run_clear_b (w := w.drew) (o := i * 4) (n := n - i) (c := c - i) hg (by omega) (by omega)
      have hcut : Cut w (w.drew.setRow g (cur.toList.take (i * 4) ++ (Builtin.zeroCells zbind (n - i)).toList ++ cur.toList.drop (i * 4 + (n - i) * 4)).toArray) G (.slice (some ⟨g, 0, none⟩) n c) (.slice (some ⟨g, 0, none⟩) i c) i bs := (h.cut hg hcs hct hnc hcm hlt).drew
      generalize (cur.toList.take (i * 4) ++ (Builtin.zeroCells zbind (n - i)).toList ++ cur.toList.drop (i * 4 + (n - i) * 4)).toArray = arr at hcl hcut
      have H := Lib.hid hcut
      have HC := Lib.hid hcl
      have hic : i ≤ c := by omega
      clear h hn hi hg hcm hcs hct e hcl hcut
      by_cases hcn : n = c
      · subst hcn
        go_enter Try.func50, Try.ntmps50
        go_wp2_with fail
        go_region_law (refine step_app0 rfl _ _ rfl g i n rfl ⟨_, _, _⟩ _ rfl hic ?_)
        all_goals
          go_wp2_with (simp only [HC.out])
          go_ret
          exact ⟨_, rfl, H.out⟩
      · have hcn2 : (n : Int) < (c : Int) := by omega
        have hcn3 : ¬ c = n := fun e => hcn e.symm
        go_enter Try.func50, Try.ntmps50
        go_wp2_with fail
        go_region_law (refine step_app0 rfl _ _ rfl g i c rfl ⟨_, _, _⟩ _ rfl hic ?_)
        all_goals
          go_wp2_with (simp only [HC.out])
          go_ret
          exact ⟨_, rfl, H.out⟩
end Go.Proofs.Ytgkblfegjmeolaa
