/- The free numbers: the methods that container/heap calls, and its up. -/
import Derived.Test.YtleppjdmcjocmaaDoorHpPlace
import Derived.Deep.LoopGhost
import Derived.Deep.RegionLaw
import Derived.IntWalk
namespace Go.Proofs.YtleppjdmcjocmaaDoor
open Go.RowKit Go.Lib
abbrev nptr (hb : Nat) : Value := .pointer (some ⟨hb, 2, none⟩)
abbrev nface (hb : Nat) : Value := .iface 102 (nptr hb)
theorem run_nums {b : Nat} {v : Value} {w : World} (h : w.cell? ⟨b, 2, none⟩ = some v) : (loadVar 65 ⟨b, 2, none⟩ : Sem Value).run Tryd.prog w = .ok v w := by simp [loadVar, h]
theorem mt_len0 (b : Nat) (w : World) : (method 236 102 (nptr b) "Len").run Tryd.prog w = ((loadVar 65 ⟨b, 2, none⟩ : Sem Value) >>= fun v => (pure (81, v) : Sem (FuncId × Value))).run Tryd.prog w := by kernel_rfl
theorem mt_less0 (b : Nat) (w : World) : (method 236 102 (nptr b) "Less").run Tryd.prog w = ((loadVar 65 ⟨b, 2, none⟩ : Sem Value) >>= fun v => (pure (82, v) : Sem (FuncId × Value))).run Tryd.prog w := by kernel_rfl
theorem mt_swap0 (b : Nat) (w : World) : (method 236 102 (nptr b) "Swap").run Tryd.prog w = ((loadVar 65 ⟨b, 2, none⟩ : Sem Value) >>= fun v => (pure (83, v) : Sem (FuncId × Value))).run Tryd.prog w := by kernel_rfl
theorem mt_push (b : Nat) (w : World) : (method 236 102 (nptr b) "Push").run Tryd.prog w = .ok (93, nptr b) w := by kernel_rfl
theorem mt_pop (b : Nat) (w : World) : (method 236 102 (nptr b) "Pop").run Tryd.prog w = .ok (92, nptr b) w := by kernel_rfl
theorem mt_len {b : Nat} {v : Value} {w : World} (h : w.cell? ⟨b, 2, none⟩ = some v) : (method 236 102 (nptr b) "Len").run Tryd.prog w = .ok (81, v) w := by
  rw [mt_len0, Sem.run_bind, run_nums h]; rfl
theorem mt_less {b : Nat} {v : Value} {w : World} (h : w.cell? ⟨b, 2, none⟩ = some v) : (method 236 102 (nptr b) "Less").run Tryd.prog w = .ok (82, v) w := by
  rw [mt_less0, Sem.run_bind, run_nums h]; rfl
theorem mt_swap {b : Nat} {v : Value} {w : World} (h : w.cell? ⟨b, 2, none⟩ = some v) : (method 236 102 (nptr b) "Swap").run Tryd.prog w = .ok (83, v) w := by
  rw [mt_swap0, Sem.run_bind, run_nums h]; rfl
theorem len_any (a : Option Addr) (n c : Nat) (w : World) : Calls Tryd.prog 81 #[.slice a n c] w fun e w' => e = .returned (.int .i64 n) ∧ w' = w := by
  go_enter Tryd.func81, Tryd.ntmps81
  go_wp2
  go_ret
  exact ⟨rfl, rfl⟩
theorem less_any (g n c i j : Nat) (x y : Int) (w : World) (hi : i < n) (hj : j < n) (ci : w.cell? ⟨g, i, none⟩ = some (.int .i64 x)) (cj : w.cell? ⟨g, j, none⟩ = some (.int .i64 y)) :
    Calls Tryd.prog 82 #[.slice (some ⟨g, 0, none⟩) n c, .int .i64 i, .int .i64 j] w fun e w' => e = .returned (.bool (decide (x < y))) ∧ ∃ d, w' = w.drewN d := by
  go_enter Tryd.func82, Tryd.ntmps82
  go_wp2
  go_quiet (fail)
  go_wp2
  go_ret
  exact ⟨rfl, _, rfl⟩
/-- What a swap leaves. -/
structure Swapped (w w' : World) (g : Nat) (T : TypeId) (cs : Array Value) : Prop where
  os : w'.os = w.os
  tape : w'.tape = w.tape
  output : w'.output = w.output
  size : w'.heap.size = w.heap.size
  block : ∀ k, k ≠ g → w'.heap[k]? = w.heap[k]?
  row : w'.heap[g]? = some (.cells cs T (0, 0))
theorem swap_ne (g n c i j : Nat) (T : TypeId) (cur : Array Value) (x y : Int) (w : World) (hi : i < n) (hj : j < n) (hij : i ≠ j) (hg : w.heap[g]? = some (.cells cur T (0, 0))) (ci : cur[i]? = some (.int .i64 x)) (cj : cur[j]? = some (.int .i64 y)) :
    Calls Tryd.prog 83 #[.slice (some ⟨g, 0, none⟩) n c, .int .i64 i, .int .i64 j] w fun e w' => e = .returned (.tuple #[]) ∧ Swapped w w' g T ((cur.setIfInBounds i (.int .i64 y)).setIfInBounds j (.int .i64 x)) := by
  have d1 : w.cell? ⟨g, i, none⟩ = some (.int .i64 x) := (cell_at hg).trans ci
  have d2 : w.cell? ⟨g, j, none⟩ = some (.int .i64 y) := (cell_at hg).trans cj
  have f1 : w.frozen? ⟨g, i, none⟩ = false := frozen_at hg
  have f2 : w.frozen? ⟨g, j, none⟩ = false := frozen_at hg
  have d3 : (w.setCell ⟨g, i, none⟩ (.int .i64 y)).cell? ⟨g, j, none⟩ = some (.int .i64 y) := (cell_at (setCell_at (i := i) hg _)).trans (by rw [Array.getElem?_setIfInBounds_ne hij]; exact cj)
  have d4 : (w.setCell ⟨g, j, none⟩ (.int .i64 x)).cell? ⟨g, i, none⟩ = some (.int .i64 x) := (cell_at (setCell_at (i := j) hg _)).trans (by rw [Array.getElem?_setIfInBounds_ne (Ne.symm hij)]; exact ci)
  have HG := Lib.hid (And.intro hg hij)
  clear hg ci cj hij
  go_enter Tryd.func83, Tryd.ntmps83
  go_region
  all_goals (go_wp2; go_end0)
  all_goals refine ⟨rfl, ⟨rfl, rfl, rfl, by simp [World.setCell], fun k hk => (setCell_off _ hk).trans (setCell_off _ hk), ?_⟩⟩
  all_goals exact setCell_at (setCell_at HG.out.1 _) _
theorem swap_eq (g n c i : Nat) (T : TypeId) (cur : Array Value) (x : Int) (w : World) (hi : i < n) (hg : w.heap[g]? = some (.cells cur T (0, 0))) (ci : cur[i]? = some (.int .i64 x)) :
    Calls Tryd.prog 83 #[.slice (some ⟨g, 0, none⟩) n c, .int .i64 i, .int .i64 i] w fun e w' => e = .returned (.tuple #[]) ∧ Swapped w w' g T cur := by
  have d1 : w.cell? ⟨g, i, none⟩ = some (.int .i64 x) := (cell_at hg).trans ci
  have f1 : w.frozen? ⟨g, i, none⟩ = false := frozen_at hg
  have hcc : cur.setIfInBounds i (.int .i64 x) = cur := by
    apply Array.ext_getElem?
    intro k
    by_cases hk : i = k
    · subst hk
      have hl := (Array.getElem?_eq_some_iff.1 ci).1
      rw [ci]
      simp [hl]
    · rw [Array.getElem?_setIfInBounds_ne hk]
  have d3 : (w.setCell ⟨g, i, none⟩ (.int .i64 x)).cell? ⟨g, i, none⟩ = some (.int .i64 x) := (cell_at (setCell_at (i := i) hg _)).trans (by rw [hcc]; exact ci)
  have HG := Lib.hid (And.intro hg hcc)
  clear hg ci hcc
  go_enter Tryd.func83, Tryd.ntmps83
  go_region
  all_goals (go_wp2; go_end0)
  all_goals refine ⟨rfl, ⟨rfl, rfl, rfl, by simp [World.setCell], fun k hk => (setCell_off _ hk).trans (setCell_off _ hk), ?_⟩⟩
  all_goals
    refine (setCell_at (setCell_at HG.out.1 _) _).trans ?_
    rw [HG.out.2, HG.out.2]
def swapL (l : List Int) (i j : Nat) : List Int := (l.set i (l.getD j 0)).set j (l.getD i 0)
theorem swapL_length (l : List Int) (i j : Nat) : (swapL l i j).length = l.length := by simp [swapL]
/-- container/heap's up, as plain data. -/
def upL (l : List Int) (j : Nat) : List Int :=
  if _h : j = 0 ∨ ¬ l.getD j 0 < l.getD ((j - 1) / 2) 0 then l else upL (swapL l ((j - 1) / 2) j) ((j - 1) / 2)
termination_by j
decreasing_by omega
abbrev ints (l : List Int) : List Value := l.map (Value.int .i64)
/-- A row of numbers in one block. -/
theorem Row.ints_at {w : World} {G : Nat → Nat} {L g cap : Nat} {l : List Int} (h : Row w G L 3 1 (.slice (some ⟨g, 0, none⟩) l.length cap) l.length (ints l)) :
    ∃ cur, w.heap[g]? = some (.cells cur 3 (0, 0)) ∧ (∀ i, i < l.length → cur[i]? = some (.int .i64 (l.getD i 0))) ∧ l.length ≤ cap ∧ cap ≤ maxLen ∧ cur.size = cap * 1 ∧ cur.toList.take (l.length * 1) = ints l := by
  obtain ⟨⟨_, h2⟩, _⟩ := h
  rcases h2 with ⟨e, _⟩ | ⟨g', cap', cur, e, _, hh, hnc, hcm, hcs, htk⟩
  · cases e
  cases e
  refine ⟨cur, hh, fun i hi => ?_, hnc, hcm, hcs, htk⟩
  have h1 : (ints l)[i]? = some (.int .i64 (l.getD i 0)) := by simp [ints, hi]
  rw [← htk, List.getElem?_take_of_lt (by omega)] at h1
  simpa using h1
/-- Two numbers change their places. -/
theorem Row.swapped {w w' : World} {G : Nat → Nat} {L g cap i j : Nat} {l : List Int} {cur : Array Value} (h : Row w G L 3 1 (.slice (some ⟨g, 0, none⟩) l.length cap) l.length (ints l)) (hg : w.heap[g]? = some (.cells cur 3 (0, 0)))
    (hs : Swapped w w' g 3 ((cur.setIfInBounds i (.int .i64 (l.getD j 0))).setIfInBounds j (.int .i64 (l.getD i 0)))) :
    Row w' G L 3 1 (.slice (some ⟨g, 0, none⟩) l.length cap) l.length (ints (swapL l i j)) := by
  obtain ⟨cur', hh, _, hnc, hcm, hcs, htk⟩ := h.ints_at
  rw [hg] at hh
  cases hh
  refine ⟨⟨by simp [swapL], .inr ⟨g, cap, _, rfl, Nat.zero_le _, hs.row, hnc, hcm, by simpa using hcs, ?_⟩⟩, h.lab⟩
  rw [Array.toList_setIfInBounds, Array.toList_setIfInBounds, List.take_set, List.take_set, htk]
  simp [swapL, ints, List.map_set]
set_option maxHeartbeats 2000000 in
set_option maxRecDepth 20000 in
theorem up_any (hb g cap j : Nat) (l : List Int) (G : Nat → Nat) (w : World) (hj : j < l.length) (hn : l.length ≤ 100000) (hne : g ≠ hb) (hbl : hb < w.heap.size) (hv : w.cell? ⟨hb, 2, none⟩ = some (.slice (some ⟨g, 0, none⟩) l.length cap))
    (hr : Row w G 3 3 1 (.slice (some ⟨g, 0, none⟩) l.length cap) l.length (ints l)) :
    Calls Tryd.prog 61 #[nface hb, .int .i64 j] w fun e w' => e = .returned (.tuple #[]) ∧ Keeps (fun k => if k = g then 1 else 0) w w' ∧ w'.heap.size = w.heap.size ∧
      Row w' G 3 3 1 (.slice (some ⟨g, 0, none⟩) l.length cap) l.length (ints (upL l j)) := by
  have H := Lib.hid (And.intro hr (And.intro hv hne))
  clear hr hv hne
  go_enter Tryd.func61, Tryd.ntmps61
  go_wp2_with fail
  go_loopg [1] j (fun gk kv wr => ∃ (k : Nat) (l' : List Int), gk = k ∧ k < l.length ∧ kv = .int .i64 k ∧ l'.length = l.length ∧ upL l' k = upL l j ∧ Keeps (fun k => if k = g then 1 else 0) w wr ∧ wr.heap.size = w.heap.size ∧ Row wr G 3 3 1 (.slice (some ⟨g, 0, none⟩) l'.length cap) l'.length (ints l'))
  case atStart => exact ⟨j, l, rfl, hj, rfl, rfl, rfl, Keeps.refl _ _, rfl, H.out.1⟩
  case round =>
    obtain ⟨k, l', hgk, hk, rfl, hl, hu, hkp, hsz, hr⟩ := hrel
    have hv : wr.cell? ⟨hb, 2, none⟩ = some (.slice (some ⟨g, 0, none⟩) l'.length cap) := by
      rw [hl, ← H.out.2.1]
      exact World.cell?_of_block (hkp.block hb hbl (if_neg (Ne.symm H.out.2.2)))
    have HK := Lib.hid (And.intro hl (And.intro hu (And.intro hkp (And.intro hsz (And.intro hr hgk)))))
    clear hl hu hkp hsz hr hgk
    by_cases hk0 : k = 0
    · subst hk0
      go_wp2_with fail
      go_end0
      refine ⟨rfl, HK.out.2.2.1, HK.out.2.2.2.1, ?_⟩
      rw [← HK.out.2.1, upL, dif_pos (Or.inl rfl), ← HK.out.1]
      exact HK.out.2.2.2.2.1
    · obtain ⟨i, hi⟩ : ∃ i : Nat, i = (k - 1) / 2 := ⟨_, rfl⟩
      have hi2 : ((k : Int) - 1) / 2 = (i : Int) := by omega
      have hik : ((i : Int) == (k : Int)) = false := by rw [beq_eq_false_iff_ne]; omega
      have hil : i < l'.length := by have := HK.out.1; omega
      have hkl : k < l'.length := by have := HK.out.1; omega
      obtain ⟨cur, kg, hcell, _⟩ := HK.out.2.2.2.2.1.ints_at
      have cK : wr.cell? ⟨g, k, none⟩ = some (.int .i64 (l'.getD k 0)) := (cell_at kg).trans (hcell k hkl)
      have cI : wr.cell? ⟨g, i, none⟩ = some (.int .i64 (l'.getD i 0)) := (cell_at kg).trans (hcell i hil)
      have hmL := mt_less hv
      have hmS := fun d : Nat => mt_swap (w := wr.drewN d) hv
      have hki : i ≠ k := by omega
      have hup : upL l' k = if l'.getD k 0 < l'.getD i 0 then upL (swapL l' i k) i else l' := by
        rw [upL]
        by_cases hx : l'.getD k 0 < l'.getD i 0
        · rw [dif_neg (by rw [← hi]; omega), if_pos hx, ← hi]
        · rw [dif_pos (by rw [← hi]; omega), if_neg hx]
      have HC := Lib.hid (And.intro kg (And.intro (hcell k hkl) (And.intro (hcell i hil) (And.intro hki (And.intro hup hi)))))
      have LK := Lib.hid cK
      have LI := Lib.hid cI
      clear kg hcell hki hup hi cK cI hk0
      obtain ⟨xk, hxk⟩ : ∃ x, x = l'.getD k 0 := ⟨_, rfl⟩
      obtain ⟨xi, hxi⟩ : ∃ x, x = l'.getD i 0 := ⟨_, rfl⟩
      rw [← hxk, ← hxi] at HC
      rw [← hxk] at LK
      rw [← hxi] at LI
      have HX := Lib.hid (And.intro hxk hxi)
      clear hxk hxi
      by_cases hx : xk < xi
      · have hxd : decide (xk < xi) = true := by simpa using hx
        have HXX := Lib.hid hx
        clear hx
        go_wp2_with (first
          | (go_at_call 82; refine (less_any g _ cap k i xk xi _ hkl hil LK.out LI.out).mono ?_; rintro e w1 ⟨rfl, d, rfl⟩)
          | (go_at_call 83; refine (swap_ne g _ cap i k 3 cur xi xk (wr.drewN d) hil hkl HC.out.2.2.2.1 HC.out.1 HC.out.2.2.1 HC.out.2.1).mono ?_; rintro e w2 ⟨rfl, hsw⟩; have HS := Lib.hid hsw; clear hsw))
        go_roundg i
        case measure => have := HC.out.2.2.2.2.2; have := HK.out.2.2.2.2.2; have := HC.out.2.2.2.1; omega
        case rel =>
          refine ⟨i, swapL l' i k, rfl, by have := HK.out.1; omega, rfl, by rw [swapL_length]; exact HK.out.1, ?_, ?_, ?_, ?_⟩
          · rw [← HK.out.2.1, HC.out.2.2.2.2.1, if_pos HXX.out]
          · refine HK.out.2.2.1.trans (G' := fun k => if k = g then 1 else 0) ⟨HS.out.os, HS.out.tape, HS.out.output, Nat.le_of_eq HS.out.size.symm, fun k hk hz => HS.out.block k (fun e => by simp [e] at hz)⟩ (fun _ _ h => h)
          · rw [HS.out.size]; exact HK.out.2.2.2.1
          · have hs := HS.out
            rw [HX.out.1, HX.out.2] at hs
            have hw := Row.swapped (w := wr) (w' := w2) HK.out.2.2.2.2.1 HC.out.1 ⟨hs.os, hs.tape, hs.output, hs.size, hs.block, hs.row⟩
            rw [swapL_length]
            exact hw
      · have hxd : decide (xk < xi) = false := by simpa using hx
        have HXX := Lib.hid hx
        clear hx
        go_wp2_with (go_at_call 82; refine (less_any g _ cap k i xk xi _ hkl hil LK.out LI.out).mono ?_; rintro e w1 ⟨rfl, d, rfl⟩)
        go_end0
        refine ⟨rfl, HK.out.2.2.1.drewN _, HK.out.2.2.2.1, ?_⟩
        rw [← HK.out.2.1, HC.out.2.2.2.2.1, if_neg (by have := HXX.out; omega), ← HK.out.1]
        exact HK.out.2.2.2.2.1.keep (fun _ _ _ => rfl) (fun _ _ e => e)
theorem step_append_row {P : Program} {ops : Array Oper} {o : Oper} {a : Act} {w : World} {K : Act → World → Prop} {Q : Exit → Act → World → Prop} {E : Prop} (hg : o.guard = none) (s x : Operand) (t : TypeId)
    (ho : o.op = .call { callee := .builtin .append, args := #[s, x], argTypes := #[t, t] })
    (e : TypeId) (i : TypeInfo) (z : Value) (size bytes : Nat) (ht : P.underlying t = some (.slice e)) (hi : P.info? e = some i) (hz : i.zero = some z)
    (hsize : i.size = size) (hby : i.bytes = bytes) (hzs : z.cells.size = size) (hsz : 0 < size)
    (v : Value) (n : Nat) (xs : List Value) (hs : a.eval s = v) (G : Nat → Nat) (L : Nat) (hrow : Row w G L e size v n xs)
    (ad : Addr) (m c : Nat) (news : List Value) (hx : a.eval x = .slice (some ad) m c) (hl : news.length = m * size) (hnews : ∀ j u, news[j]? = some u → w.cell? (ad.add j) = some u) (h1 : ∀ u ∈ news, u.oneCell' = true)
    (h63 : n + m ≤ maxLen) (hbytes : (n + m) * bytes ≤ 140737488355328)
    (h : ∀ v' w', Row w' (fun k => if k < w.heap.size then G k else L) L e size v' (n + m) (xs ++ news) → w.grownBy w' v.ownBlock → (v' = .slice none 0 0 ↔ v = .slice none 0 0 ∧ m = 0) → K (a.put o.dst v') w') :
    if Region.wanted o (yielded ops a.tmps) = true then Oper.wp P o a w K Q else E := by
  have hw : Region.wanted o (yielded ops a.tmps) = true := by simp [Region.wanted, hg]
  rw [if_pos hw]
  obtain ⟨v', w', hr, h2, h3, h4, h5⟩ := run_append_row (P := P) w t o.type e i z size bytes ht hi hz hsize hby hzs hsz v n xs hrow.own ad m c news hl hnews h1 h63 hbytes
  have hfin := h v' w' ⟨h2, fun k hk => by
    rcases h5 k hk with h6 | h6
    · have := hrow.lt k h6
      rw [if_pos this]; exact hrow.lab k h6
    · rw [if_neg (by omega)]⟩ h3 h4
  unfold Oper.wp execOp
  simp only [ho, resolve, invoke, builtin, Sem.run_bind, Sem.run_pure, Result.andThen_ok, List.map_toArray, List.map_cons, List.map_nil, hs, hx, hr]
  exact hfin
theorem info_int : (Tryd.prog.info? 3).map (fun i => (i.zero, i.size, i.bytes)) = some (some (.int .i64 0), 1, 8) := by kernel_rfl
/-- What Push leaves. -/
structure Pushed (w w' : World) (hb : Nat) (G : Nat → Nat) (lim vo st : Value) (l : List Int) : Prop where
  os : w'.os = w.os
  tape : w'.tape = w.tape
  output : w'.output = w.output
  size : w.heap.size ≤ w'.heap.size
  block : ∀ k, k < w.heap.size → G k ≠ 1 → G k ≠ 3 → w'.heap[k]? = w.heap[k]?
  lies : ∃ g cap, w'.heap[hb]? = some (.cells #[lim, vo, .slice (some ⟨g, 0, none⟩) l.length cap, st] 67 (0, 0)) ∧ g ≠ hb ∧ Row w' (fun k => if k < w.heap.size then G k else 3) 3 3 1 (.slice (some ⟨g, 0, none⟩) l.length cap) l.length (ints l)
theorem news_one (W : World) (v : Value) (T : TypeId) : ∀ (j : Nat) (u : Value), [v][j]? = some u → (W.alloc (.cells #[v] T)).cell? ((⟨W.heap.size, 0, none⟩ : Addr).add j) = some u := by
  intro j u hj
  match j, hj with
  | 0, hj => simp at hj; subst hj; simp [Addr.add]
  | (j + 1), hj => simp at hj
theorem own_same {w w' : World} {B e size : Nat} {v : Value} {n : Nat} {xs : List Value} (h : w.ownsRow B e size v n xs) (hb : ∀ k, v.ownBlock = some k → w'.heap[k]? = w.heap[k]?) : w'.ownsRow B e size v n xs := by
  obtain ⟨h1, h2⟩ := h
  refine ⟨h1, h2.imp id ?_⟩
  rintro ⟨g, cap, cur, hv, hg, hh, hr⟩
  exact ⟨g, cap, cur, hv, hg, (hb g (by rw [hv]; rfl)).trans hh, hr⟩
theorem push_mid {hb cf : Nat} {n : Int} {l : List Int} {lim vo st v' : Value} {af : Option Addr} {G : Nat → Nat} {w W w1 : World} (hW : Below w.heap.size w W) (hh : w.heap[hb]? = some (.cells #[lim, vo, .slice af l.length cf, st] 67 (0, 0)))
    (hr : Row w G 3 3 1 (.slice af l.length cf) l.length (ints l)) (hG : G hb = 1) (hrow : Row w1 (fun k => if k < W.heap.size then G k else 3) 3 3 1 v' (l.length + 1) (ints l ++ [.int .i64 n])) (hgr : W.grownBy w1 (Value.slice af l.length cf).ownBlock) :
    ∃ g cap, v' = .slice (some ⟨g, 0, none⟩) (l.length + 1) cap ∧ w1.cell? ⟨hb, 2, none⟩ = some (.slice af l.length cf) ∧ w1.frozen? ⟨hb, 2, none⟩ = false ∧ Pushed w (w1.setCell ⟨hb, 2, none⟩ v') hb G lim vo st (l ++ [n]) := by
  obtain ⟨g, cap, cur, rfl, hg2, kg, _⟩ := hrow.at (by omega)
  have hlab : ∀ k, (Value.slice af l.length cf).ownBlock = some k → G k = 3 := hr.lab
  have hbl := lt_at hh
  have hzW := hW.size
  have hzw := hgr.size
  have hblk : ∀ k, k < w.heap.size → G k ≠ 3 → w1.heap[k]? = w.heap[k]? := fun k hk n3 =>
    (hgr.block k (by omega) (fun e => n3 (hlab k e.symm))).trans (hW.block k hk)
  have hh1 := (hblk hb hbl (by omega)).trans hh
  have hne : g ≠ hb := by
    intro e
    rw [e, if_pos (by omega)] at hg2
    omega
  refine ⟨g, cap, rfl, cell_at hh1, frozen_at hh1, ⟨hgr.os.trans hW.os, hgr.tape.trans hW.tape, hgr.output.trans hW.output, by simp [World.setCell]; omega, fun k hk n1 n3 => ?_, g, cap, ?_, hne, ?_⟩⟩
  · rw [setCell_off _ (by intro e; subst e; exact n1 hG)]
    exact hblk k hk n3
  · have := setCell_at (i := 2) hh1 (.slice (some ⟨g, 0, none⟩) (l.length + 1) cap)
    simpa using this
  · have hlen : (l ++ [n]).length = l.length + 1 := by simp
    rw [hlen]
    have hints : ints (l ++ [n]) = ints l ++ [.int .i64 n] := by simp [ints]
    rw [hints]
    refine ⟨own_same hrow.own (fun k hk => setCell_off _ (by cases hk; exact hne)), fun k hk => ?_⟩
    cases hk
    show (if g < w.heap.size then G g else 3) = 3
    by_cases h : g < w.heap.size
    · rw [if_pos h]
      rw [if_pos (by omega)] at hg2
      exact hg2
    · rw [if_neg h]
set_option maxHeartbeats 2000000 in
set_option maxRecDepth 20000 in
theorem push_any (hb : Nat) (n : Int) (l : List Int) (lim vo vf st : Value) (G : Nat → Nat) (w : World) (hh : w.heap[hb]? = some (.cells #[lim, vo, vf, st] 67 (0, 0))) (hG : G hb = 1) (hl : l.length ≤ 65536)
    (hr : Row w G 3 3 1 vf l.length (ints l)) :
    Calls Tryd.prog 93 #[nptr hb, .iface 3 (.int .i64 n)] w fun e w' => e = .returned (.tuple #[]) ∧ Pushed w w' hb G lim vo st (l ++ [n]) := by
  obtain ⟨i0, hi0, hz0, hz1, hz2⟩ := info_parts info_int
  obtain ⟨af, cf, rfl⟩ := hr.slice
  have c2 : w.cell? ⟨hb, 2, none⟩ = some (.slice af l.length cf) := cell_at hh
  have f2 : w.frozen? ⟨hb, 2, none⟩ = false := frozen_at hh
  have hta : ∀ w : World, (Instr.typeAssert (.iface 3 (.int .i64 n)) 20 3 false).run Tryd.prog w = .ok (.int .i64 n) w := fun w => by kernel_rfl
  have H := Lib.hid (And.intro hh (And.intro hr (And.intro hG hl)))
  clear hh hr hG hl
  go_enter Tryd.func93, Tryd.ntmps93
  have hrw : ∀ W, Below w.heap.size w W → Row W G 3 3 1 (.slice af l.length cf) l.length (ints l) := fun W hW => H.out.2.1.keep (fun k hk _ => hW.block k hk) (fun _ _ e => e)
  have HR := Lib.hid hrw
  have hc2 : ∀ u ∈ [Value.int .i64 n], u.oneCell' = true := by intro u hu; simp at hu; subst hu; rfl
  have HC2 := Lib.hid hc2
  have hc3 : l.length + 1 ≤ maxLen := by have := H.out.2.2.2; unfold maxLen; omega
  have hc4 : (l.length + 1) * 8 ≤ 140737488355328 := by have := H.out.2.2.2; omega
  have HC3 := Lib.hid (And.intro hc3 hc4)
  clear hrw hc2 hc3 hc4
  have hr9 := HR.out _ ((Below.refl w.heap.size w).drew.alloc (Nat.le_refl _) (.cells #[.int .i64 n] 3))
  have hn9 := news_one w.drew (.int .i64 n) 3
  have H9 := Lib.hid (And.intro hr9 hn9)
  have c3 : (w.alloc (.cells #[.int .i64 n] 3)).cell? ⟨hb, 2, none⟩ = some (.slice af l.length cf) := (World.cell?_of_block (Below.heap_alloc _ _ _ (lt_at H.out.1))).trans c2
  clear hr9 hn9
  go_region_law (refine step_append_row rfl _ _ 65 rfl 3 i0 (.int .i64 0) 1 8 Tryd.underlying65 hi0 hz0 hz1 hz2 rfl (by decide) _ _ _ rfl G 3 H9.out.1 ⟨w.heap.size, 0, none⟩ 1 1 [.int .i64 n] rfl rfl H9.out.2 HC2.out HC3.out.1 HC3.out.2 ?_; intro v' w1 hrow hgr _; obtain ⟨g, cap', rfl, k1, q1, hpp⟩ := push_mid ((Below.refl w.heap.size w).drew.alloc (Nat.le_refl _) (.cells #[.int .i64 n] 3)) H.out.1 H.out.2.1 H.out.2.2.1 hrow hgr; have HP := Lib.hid hpp; clear hrow hgr hpp)
  all_goals (go_wp2; go_end0)
  all_goals exact ⟨rfl, HP.out⟩
end Go.Proofs.YtleppjdmcjocmaaDoor
