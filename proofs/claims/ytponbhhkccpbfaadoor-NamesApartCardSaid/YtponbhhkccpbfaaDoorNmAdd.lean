/- add: a symbol at the end of the row of symbols. -/
import Derived.Test.YtponbhhkccpbfaaDoorNmLeaf
import Derived.Deep.RegionLaw
import Derived.Laws.AppendOwnNone
namespace Go.Proofs.YtponbhhkccpbfaaDoor
open Go.RowKit Go.Lib Go.Shelf
theorem step_append_row {P : Program} {ops : Array Oper} {o : Oper} {a : Act} {w : World} {K : Act → World → Prop} {Q : Exit → Act → World → Prop} {E : Prop} (hg : o.guard = none) (s x : Operand) (t : TypeId)
    (ho : o.op = .call { callee := .builtin .append, args := #[s, x], argTypes := #[t, t] })
    (e : TypeId) (i : TypeInfo) (z : Value) (size bytes : Nat) (ht : P.underlying t = some (.slice e)) (hi : P.info? e = some i) (hz : i.zero = some z)
    (hsize : i.size = size) (hby : i.bytes = bytes) (hzs : z.cells.size = size) (hsz : 0 < size)
    (v : Value) (n : Nat) (xs : List Value) (hs : a.eval s = v) (G : Nat → Nat) (L : Nat) (hrow : Row w G L e size v n xs)
    (ad : Addr) (m c : Nat) (news : List Value) (hx : a.eval x = .slice (some ad) m c) (hl : news.length = m * size) (hnews : ∀ j u, news[j]? = some u → w.cell? (ad.add j) = some u) (h1 : ∀ u ∈ news, u.oneCell' = true)
    (h63 : n + m ≤ maxLen) (hbytes : (n + m) * bytes ≤ 140737488355328)
    (h : ∀ v' w', Row w' (fun k => if k < w.heap.size then G k else L) L e size v' (n + m) (xs ++ news) → w.grownBy w' v.ownBlock → (v' = .slice none 0 0 ↔ v = .slice none 0 0 ∧ m = 0) → K (a.put o.dst v') w') :
    if Region.wanted o (yielded ops a.tmps) = true then Oper.wp P o a w K Q else E := by
  have hw : Region.wanted o (yielded ops a.tmps) = true := by simp [Region.wanted, hg]
  rw [if_pos hw]
  obtain ⟨v', w', hr, h2, h3, h4, h5⟩ := run_append_row (P := P) w t o.type e i z size bytes ht hi hz hsize hby hzs hsz v n xs hrow.own ad m c news hl hnews h1 h63 hbytes
  have hfin := h v' w' ⟨h2, fun k hk => by
    rcases h5 k hk with h6 | h6
    · have := hrow.lt k h6
      rw [if_pos this]; exact hrow.lab k h6
    · rw [if_neg (by omega)]⟩ h3 h4
  unfold Oper.wp execOp
  simp only [ho, resolve, invoke, builtin, Sem.run_bind, Sem.run_pure, Result.andThen_ok, List.map_toArray, List.map_cons, List.map_nil, hs, hx, hr]
  exact hfin
/-- A new symbol's cells. -/
abbrev fy (s : ByteArray) (b : Bool) : Sy := ⟨(0, 0), false, [], s, b⟩
abbrev fcells (s : ByteArray) (b : Bool) : List Value := [.int .i64 0, .int .i64 0, .bool false, .slice none 0 0, .string s, .bool b]
theorem info_sym : (Tryd.prog.info? 80).map (fun i => (i.zero, i.size, i.bytes)) = some (some (.agg #[.int .i64 0, .int .i64 0, .bool false, .slice none 0 0, .string ⟨#[]⟩, .bool false]), 6, 72) := by kernel_rfl
/-- What add leaves. -/
structure Added (w w' : World) (tb : Nat) (G : Nat → Nat) (mv vs' : Value) (n : Nat) (xs : List Value) : Prop where
  tab : w'.heap[tb]? = some (.cells #[vs', mv] 74 (0, 0))
  row : Row w' (fun k => if k < w.heap.size then G k else 2) 2 80 6 vs' n xs
  os : w'.os = w.os
  tape : w'.tape = w.tape
  output : w'.output = w.output
  size : w.heap.size ≤ w'.heap.size
  block : ∀ k, k < w.heap.size → G k ≠ 1 → G k ≠ 2 → w'.heap[k]? = w.heap[k]?
theorem added_mid {w wm w1 : World} {tb n c : Nat} {ao : Option Addr} {mv v' : Value} {G : Nat → Nat} {xs news : List Value} (hw : Below w.heap.size w wm) (hh : w.heap[tb]? = some (.cells #[.slice ao n c, mv] 74 (0, 0))) (hr : Row w G 2 80 6 (.slice ao n c) n xs) (hG : G tb = 1)
    (hrow : Row w1 (fun k => if k < wm.heap.size then G k else 2) 2 80 6 v' (n + 1) (xs ++ news)) (hgr : wm.grownBy w1 (Value.slice ao n c).ownBlock) :
    ∃ g cap, v' = .slice (some ⟨g, 0, none⟩) (n + 1) cap ∧ w1.cell? ⟨tb, 0, none⟩ = some (.slice ao n c) ∧ w1.frozen? ⟨tb, 0, none⟩ = false ∧ Added w (w1.setCell ⟨tb, 0, none⟩ v') tb G mv v' (n + 1) (xs ++ news) := by
  have htl := lt_at hh
  have hzw := hw.size
  have hzg := hgr.size
  have hlab : ∀ k, (Value.slice ao n c).ownBlock = some k → k ≠ tb ∧ G k = 2 ∧ k < w.heap.size := fun k hk => ⟨(fun e => by have := hr.lab k hk; rw [e, hG] at this; omega), hr.lab k hk, hr.lt k hk⟩
  obtain ⟨g, cap, cur, hv, hg2, hgh, _⟩ := hrow.at (by omega)
  have hh1 : w1.heap[tb]? = some (.cells #[.slice ao n c, mv] 74 (0, 0)) := (hgr.block tb (by omega) (fun e => (hlab tb e.symm).1 rfl)).trans ((hw.block tb htl).trans hh)
  have hgl := lt_at hgh
  have hgt : g ≠ tb := by
    intro e
    rw [e, if_pos (by omega), hG] at hg2
    omega
  subst hv
  refine ⟨g, cap, rfl, cell_at hh1, frozen_at hh1, setCell_at hh1 _, ⟨?_, fun k hk => ?_⟩, ?_, ?_, ?_, ?_, fun k hk n1 n2 => ?_⟩
  · obtain ⟨o1, o2⟩ := hrow.own
    refine ⟨o1, ?_⟩
    rcases o2 with ⟨e, _⟩ | ⟨g', cap', cur', e, e0, e1, e2⟩
    · cases e
    · cases e
      exact .inr ⟨g, cap, cur', rfl, e0, (setCell_off _ hgt).trans e1, e2⟩
  · cases hk
    show (if g < w.heap.size then G g else 2) = 2
    by_cases h : g < w.heap.size
    · rw [if_pos h]
      rw [if_pos (by omega)] at hg2
      exact hg2
    · rw [if_neg h]
  · exact hgr.os.trans hw.os
  · exact hgr.tape.trans hw.tape
  · exact hgr.output.trans hw.output
  · simp [World.setCell]; omega
  · rw [setCell_off _ (by intro e; have e2 : k = tb := e; rw [e2, hG] at n1; exact n1 rfl)]
    exact (hgr.block k (by omega) (fun e => n2 (hlab k e.symm).2.1)).trans (hw.block k hk)
theorem news_six (W : World) (a b c d e f : Value) (T : TypeId) : ∀ (j : Nat) (x : Value), [a, b, c, d, e, f][j]? = some x → (W.alloc (.cells #[a, b, c, d, e, f] T)).cell? ((⟨W.heap.size, 0, none⟩ : Addr).add j) = some x := by
  intro j x hj
  match j, hj with
  | 0, hj => simp at hj; subst hj; simp [Addr.add]
  | 1, hj => simp at hj; subst hj; simp [Addr.add]
  | 2, hj => simp at hj; subst hj; simp [Addr.add]
  | 3, hj => simp at hj; subst hj; simp [Addr.add]
  | 4, hj => simp at hj; subst hj; simp [Addr.add]
  | 5, hj => simp at hj; subst hj; simp [Addr.add]
  | (j + 6), hj => simp at hj
set_option maxHeartbeats 4000000 in
set_option maxRecDepth 20000 in
theorem add_core (tb n : Nat) (s : ByteArray) (b : Bool) (mv vs : Value) (G : Nat → Nat) (xs : List Value) (w : World) (hh : w.heap[tb]? = some (.cells #[vs, mv] 74 (0, 0))) (hr : Row w G 2 80 6 vs n xs) (hG : G tb = 1) (hn : n < 16384) :
    Calls Tryd.prog 42 #[hptr tb, .agg #[.int .i64 0, .int .i64 0, .bool false, .slice none 0 0, .string s, .bool b]] w fun e w' => e = .returned (.int .i64 n) ∧ ∃ vs', Added w w' tb G mv vs' (n + 1) (xs ++ fcells s b) := by
  obtain ⟨i0, hi0, hz0, hz1, hz2⟩ := info_parts info_sym
  obtain ⟨ao, co, rfl⟩ := hr.slice
  have c0 : w.cell? ⟨tb, 0, none⟩ = some (.slice ao n co) := cell_at hh
  have z0 := lt_at hh
  have hbox : Below w.heap.size w (w.alloc (.cells #[.int .i64 0, .int .i64 0, .bool false, .slice none 0 0, .string s, .bool b] 80)) := (Below.refl _ _).alloc (Nat.le_refl _) _
  have hmid : Below w.heap.size w ((w.alloc (.cells #[.int .i64 0, .int .i64 0, .bool false, .slice none 0 0, .string s, .bool b] 80)).drew.alloc (.cells #[.int .i64 0, .int .i64 0, .bool false, .slice none 0 0, .string s, .bool b] 80)) := hbox.drew.alloc hbox.size _
  have hrm := hr.keep (G' := G) (fun k hk _ => hmid.block k hk) (fun _ _ e => e)
  have hnm := news_six (w.alloc (.cells #[.int .i64 0, .int .i64 0, .bool false, .slice none 0 0, .string s, .bool b] 80)).drew (.int .i64 0) (.int .i64 0) (.bool false) (.slice none 0 0) (.string s) (.bool b) 80
  rw [show (w.alloc (.cells #[.int .i64 0, .int .i64 0, .bool false, .slice none 0 0, .string s, .bool b] 80)).drew.heap.size = w.heap.size + 1 from by simp [World.drew]] at hnm
  have h1c : ∀ u ∈ fcells s b, u.oneCell' = true := by intro u hu; simp [fcells] at hu; rcases hu with rfl | rfl | rfl | rfl | rfl <;> rfl
  have hc3 : n + 1 ≤ maxLen := by unfold maxLen; omega
  have hc4 : (n + 1) * 72 ≤ 140737488355328 := by omega
  have H := Lib.hid (And.intro hrm (And.intro hnm (And.intro h1c (And.intro hc3 (And.intro hc4 (And.intro hh (And.intro hr (And.intro hG hmid))))))))
  clear hrm hnm h1c hc3 hc4 hh hr hG hmid hbox
  go_enter Tryd.func42, Tryd.ntmps42
  go_wp2_with fail
  go_region_law (refine step_append_row rfl _ _ 72 rfl 80 i0 (.agg #[.int .i64 0, .int .i64 0, .bool false, .slice none 0 0, .string ⟨#[]⟩, .bool false]) 6 72 Tryd.underlying72 hi0 hz0 hz1 hz2 rfl (by decide) _ _ _ rfl G 2 H.out.1 ⟨w.heap.size + 1, 0, none⟩ 1 1 (fcells s b) rfl rfl H.out.2.1 H.out.2.2.1 H.out.2.2.2.1 H.out.2.2.2.2.1 ?_; intro v' w1 hrow hgr _; obtain ⟨g, cap', rfl, k1, q1, hpp⟩ := added_mid H.out.2.2.2.2.2.2.2.2 H.out.2.2.2.2.2.1 H.out.2.2.2.2.2.2.1 H.out.2.2.2.2.2.2.2.1 hrow hgr; have HP := Lib.hid hpp; clear hrow hgr hpp)
  all_goals (go_wp2; go_ret)
  all_goals exact ⟨rfl, _, HP.out⟩
end Go.Proofs.YtponbhhkccpbfaaDoor
