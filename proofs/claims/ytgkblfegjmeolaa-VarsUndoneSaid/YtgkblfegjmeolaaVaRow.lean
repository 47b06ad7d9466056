/- The row of bindings: one more binding. -/
import Derived.Test.YtgkblfegjmeolaaVaNew
import Derived.Deep.RegionLaw
import Derived.Laws.AppendOwnNone
namespace Go.Proofs.Ytgkblfegjmeolaa
open Go.RowKit Go.Lib
theorem step_append_row {P : Program} {ops : Array Oper} {o : Oper} {a : Act} {w : World} {K : Act → World → Prop} {Q : Exit → Act → World → Prop} {E : Prop} (hg : o.guard = none) (s x : Operand) (t : TypeId)
    (ho : o.op = .call { callee := .builtin .append, args := #[s, x], argTypes := #[t, t] })
    (e : TypeId) (i : TypeInfo) (z : Value) (size bytes : Nat) (ht : P.underlying t = some (.slice e)) (hi : P.info? e = some i) (hz : i.zero = some z)
    (hsize : i.size = size) (hby : i.bytes = bytes) (hzs : z.cells.size = size) (hsz : 0 < size)
    (v : Value) (n : Nat) (xs : List Value) (hs : a.eval s = v) (G : Nat → Nat) (L : Nat) (hrow : Row w G L e size v n xs)
    (ad : Addr) (m c : Nat) (news : List Value) (hx : a.eval x = .slice (some ad) m c) (hl : news.length = m * size) (hnews : ∀ j u, news[j]? = some u → w.cell? (ad.add j) = some u) (h1 : ∀ u ∈ news, u.oneCell' = true)
    (h63 : n + m ≤ maxLen) (hbytes : (n + m) * bytes ≤ 140737488355328)
    (h : ∀ v' w', Row w' (fun k => if k < w.heap.size then G k else L) L e size v' (n + m) (xs ++ news) → w.grownBy w' v.ownBlock → (v' = .slice none 0 0 ↔ v = .slice none 0 0 ∧ m = 0) → K (a.put o.dst v') w') :
    if Region.wanted o (yielded ops a.tmps) = true then Oper.wp P o a w K Q else E := by
  have hw : Region.wanted o (yielded ops a.tmps) = true := by simp [Region.wanted, hg]
  rw [if_pos hw]
  obtain ⟨v', w', hr, h2, h3, h4, h5⟩ := run_append_row (P := P) w t o.type e i z size bytes ht hi hz hsize hby hzs hsz v n xs hrow.own ad m c news hl hnews h1 h63 hbytes
  have hfin := h v' w' ⟨h2, fun k hk => by
    rcases h5 k hk with h6 | h6
    · have := hrow.lt k h6
      rw [if_pos this]; exact hrow.lab k h6
    · rw [if_neg (by omega)]⟩ h3 h4
  unfold Oper.wp execOp
  simp only [ho, resolve, invoke, builtin, Sem.run_bind, Sem.run_pure, Result.andThen_ok, List.map_toArray, List.map_cons, List.map_nil, hs, hx, hr]
  exact hfin
theorem Row.slice {w : World} {G : Nat → Nat} {L : Nat} {e : TypeId} {size : Nat} {v : Value} {n : Nat} {xs : List Value} (h : Row w G L e size v n xs) : ∃ a cap, v = .slice a n cap := by
  obtain ⟨⟨h1, h2⟩, h3⟩ := h
  rcases h2 with ⟨rfl, rfl⟩ | ⟨g, cap, cur, hv, _⟩
  · exact ⟨none, 0, rfl⟩
  · exact ⟨_, cap, hv⟩
theorem Row.at {w : World} {G : Nat → Nat} {L : Nat} {e : TypeId} {size : Nat} {v : Value} {n : Nat} {xs : List Value} (h : Row w G L e size v n xs) (hn : 0 < n) :
    ∃ g cap cur, v = .slice (some ⟨g, 0, none⟩) n cap ∧ G g = L ∧ w.heap[g]? = some (.cells cur e (0, 0)) ∧ n ≤ cap ∧ cap ≤ maxLen ∧ cur.size = cap * size ∧ cur.toList.take (n * size) = xs := by
  obtain ⟨⟨h1, h2⟩, h3⟩ := h
  rcases h2 with h2 | ⟨g, cap, cur, hv, _, hh, hr⟩
  · omega
  · exact ⟨g, cap, cur, hv, h3 g (by rw [hv]; rfl), hh, hr⟩
theorem Row.cell {w : World} {G : Nat → Nat} {L : Nat} {e : TypeId} {size : Nat} {n g cap : Nat} {xs : List Value} (h : Row w G L e size (.slice (some ⟨g, 0, none⟩) n cap) n xs) {i : Nat} {u : Value} (hx : xs[i]? = some u) : w.cell? ⟨g, i, none⟩ = some u := by
  obtain ⟨⟨h1, h2⟩, h3⟩ := h
  rcases h2 with ⟨h2, _⟩ | ⟨g', cap', cur, hv, _, hh, _, _, _, ht⟩
  · cases h2
  · cases hv
    rw [cell_at hh]
    rw [← ht] at hx
    have hi := (List.getElem?_eq_some_iff.1 hx).1
    simp only [List.length_take] at hi
    rw [List.getElem?_take_of_lt (by omega)] at hx
    simpa using hx
theorem Row.store {w : World} {G : Nat → Nat} {L : Nat} {e : TypeId} {size g cap n : Nat} {xs : List Value} (h : Row w G L e size (.slice (some ⟨g, 0, none⟩) n cap) n xs) (j : Nat) (u : Value) :
    Row (w.setCell ⟨g, j, none⟩ u) G L e size (.slice (some ⟨g, 0, none⟩) n cap) n (xs.set j u) := ⟨(h.own.stored j u).1, h.lab⟩
theorem bcells_append (l r : List Bd) : bcells (l ++ r) = bcells l ++ bcells r := by simp [bcells]
theorem info_bind : (Try.prog.info? 68).map (fun i => (i.zero, i.size, i.bytes)) = some (some (.agg #[.int .i64 0, .int .i64 0, .bool false, .nilFunc]), 4, 32) := by kernel_rfl
/-- Where a binding's two variables lie. -/
structure PQ (w : World) (B : Nat) (b : Bd) : Prop where
  lp : B ≤ b.p
  lq : B ≤ b.q
  p : w.heap[b.p]? = some (iobj b.k)
  q : w.heap[b.q]? = some (iobj b.n)
theorem PQ.below {w w' : World} {B : Nat} {b : Bd} (h : PQ w B b) (hw : Below w.heap.size w w') : PQ w' B b := ⟨h.lp, h.lq, (hw.block _ (lt_at h.p)).trans h.p, (hw.block _ (lt_at h.q)).trans h.q⟩
theorem restorer_any (k n : Nat) (c : Cl) (w : World) : Calls Try.prog 47 #[.int .i64 k, .int .i64 n] w fun e w' => ∃ p q, e = .returned (bfun ⟨k, n, c, p, q⟩) ∧ PQ w' w.heap.size ⟨k, n, c, p, q⟩ ∧ Below w.heap.size w w' := by
  have hb : Below w.heap.size w ((w.alloc (iobj k)).alloc (iobj n)) := ((Below.refl _ _).alloc (Nat.le_refl _) _).alloc (by simp) _
  have a1 := alloc_at (w.alloc (iobj k)) (iobj n)
  rw [show (w.alloc (iobj k)).heap.size = w.heap.size + 1 by simp] at a1
  have a0 := (((Below.refl _ _).alloc (Nat.le_refl _) (iobj n)).block w.heap.size (by simp)).trans (alloc_at w (iobj k))
  have H := Lib.hid (And.intro hb (PQ.mk (b := ⟨k, n, c, w.heap.size, w.heap.size + 1⟩) (Nat.le_refl w.heap.size) (Nat.le_succ _) a0 a1))
  clear hb a1 a0
  go_enter Try.func47, Try.ntmps47
  go_wp2
  go_ret
  exact ⟨_, _, rfl, H.out.2, H.out.1⟩
def Vs.bound (m : Vs) (k n : Nat) : Vs := { m with binds := m.binds ++ [(k, n, m.at k n)] }
/-- The variables with one more binding. -/
theorem VarsAt.bindRow {w : World} {vb : Nat} {G : Nat → Nat} {m : Vs} (h : VarsAt w vb G m) : ∃ cm mm a n c bs, w.heap[vb]? = some (.cells #[.map (some cm), .int .i64 m.scope, .map (some mm), .slice a n c] 58 (0, 0)) ∧ n = m.binds.length ∧
    Row w G 4 68 4 (.slice a n c) n (bcells bs) ∧
    ∀ (W w1 : World) (v' : Value) (b : Bd), Below w.heap.size w W → Row w1 (fun k => if k < W.heap.size then G k else 4) 4 68 4 v' (n + 1) (bcells bs ++ bcells [b]) → W.grownBy w1 (Value.slice a n c).ownBlock →
      PQ W w.heap.size b → b.k ≤ 65536 → b.n < 16384 → b.c = m.at b.k b.n → VWent w (w1.setCell ⟨vb, 3, none⟩ v') vb G (m.bound b.k b.n) := by
  obtain ⟨new, lab, sco, mrk, cm, mm, bv, sc, cb, bs, h1, h2, h3, h4, hF, h5, h6, h7⟩ := h
  have hl : bs.length = m.binds.length := by rw [← h5]; simp
  obtain ⟨a, c, rfl⟩ := h6.slice
  refine ⟨cm, mm, a, bs.length, c, bs, h1, hl, h6, fun W w1 v' b hW hr hg hpq hbk hbn hbc => ?_⟩
  obtain ⟨g, cap, cur, rfl, hGg, hgh, _⟩ := hr.at (by omega)
  have hWs := hW.size
  have hws := hg.size
  have hvl := lt_at h1
  have hgl := lt_at hgh
  have hown : ∀ k, (Value.slice a bs.length c).ownBlock = some k → G k = 4 ∧ k < w.heap.size := fun k hk => ⟨h6.lab k hk, h6.lt k hk⟩
  have hgG : g < w.heap.size → G g = 4 := fun hb => by rw [if_pos (by omega)] at hGg; exact hGg
  have hgB : ¬ g < w.heap.size → W.heap.size ≤ g := fun hb => by
    rcases Nat.lt_or_ge g W.heap.size with h8 | h8
    · rw [if_pos h8, new g (by omega)] at hGg; cases hGg
    · exact h8
  have hpl := lt_at hpq.p
  have hql := lt_at hpq.q
  have hlp := hpq.lp
  have hlq := hpq.lq
  have hoff : ∀ k, k < W.heap.size → k ≠ vb → (k < w.heap.size → G k ≠ 4) → (w1.setCell ⟨vb, 3, none⟩ (.slice (some ⟨g, 0, none⟩) (bs.length + 1) cap)).heap[k]? = W.heap[k]? := fun k hk n1 n4 =>
    (setCell_off _ n1).trans (hg.block k hk (fun e => by obtain ⟨e1, e2⟩ := hown k e.symm; exact n4 e2 e1))
  have hoff2 : ∀ k, k < w.heap.size → G k ≠ 1 → G k ≠ 4 → (w1.setCell ⟨vb, 3, none⟩ (.slice (some ⟨g, 0, none⟩) (bs.length + 1) cap)).heap[k]? = w.heap[k]? := fun k hk n1 n4 =>
    (hoff k (by omega) (fun e => n1 (by rw [e]; exact lab)) (fun _ => n4)).trans (hW.block k hk)
  have hgv : g ≠ vb := fun e => by
    by_cases hb : g < w.heap.size
    · have := hgG hb; rw [e, lab] at this; cases this
    · omega
  have hkeep : Keeps G w (w1.setCell ⟨vb, 3, none⟩ (.slice (some ⟨g, 0, none⟩) (bs.length + 1) cap)) := ((Keeps.of_below (G := G) hW).grown hg (fun k hk hk2 => by have := (hown k hk).1; omega)).setCell (p := ⟨vb, 3, none⟩) (fun _ => by show G vb ≠ 0; omega) _
  have hG : ∀ k, k < w.heap.size → (if k < w.heap.size then G k else if k = g then 4 else if k = b.p ∨ k = b.q then 5 else 0) = G k := fun k hk => if_pos hk
  refine ⟨hkeep, fun k => if k < w.heap.size then G k else if k = g then 4 else if k = b.p ∨ k = b.q then 5 else 0, ⟨fun k hk => ?_, (hG vb hvl).trans lab, sco, mrk, cm, mm, .slice (some ⟨g, 0, none⟩) (bs.length + 1) cap, sc, cb, bs ++ [b], ?_, (hG mm h4.lt).trans h2, h3.keep (fun k hk e => hoff2 k hk (by omega) (by omega)) (fun k hk e => hG k hk), h4.move (hoff2 mm h4.lt (by omega) (by omega)), hF, ?_, ?_, fun b' hb' => ?_⟩, fun k hk => by simp only [hG k hk]⟩
  · simp [World.setCell] at hk
    rw [if_neg (by omega), if_neg (by omega), if_neg (by omega)]
  · have e1 : w1.heap[vb]? = some (.cells #[.map (some cm), .int .i64 m.scope, .map (some mm), .slice a bs.length c] 58 (0, 0)) := (hg.block vb (by omega) (fun e => by have := (hown vb e.symm).1; omega)).trans ((hW.block vb hvl).trans h1)
    exact (setCell_at e1 _).trans rfl
  · show (bs ++ [b]).map Bd.out = m.binds ++ [(b.k, b.n, m.at b.k b.n)]
    rw [List.map_append, h5, ← hbc]
    rfl
  · rw [bcells_append]
    have e2 : (bs ++ [b]).length = bs.length + 1 := by simp
    rw [e2]
    obtain ⟨o1, o2⟩ := hr.own
    refine ⟨⟨o1, ?_⟩, fun k hk => ?_⟩
    · rcases o2 with ⟨e, _⟩ | ⟨g', cap', cur', e, e0, e1, e2⟩
      · cases e
      · cases e
        exact .inr ⟨g, cap, cur', rfl, e0, (setCell_off _ hgv).trans e1, e2⟩
    · cases hk
      by_cases hb : g < w.heap.size
      · rw [if_pos hb]; exact hgG hb
      · rw [if_neg hb, if_pos rfl]
  · rcases List.mem_append.1 hb' with hb' | hb'
    · obtain ⟨a1, a2, a3, a4, a5, a6⟩ := h7 b' hb'
      exact ⟨a1, a2, (hoff2 _ (lt_at a3) (by omega) (by omega)).trans a3, (hoff2 _ (lt_at a4) (by omega) (by omega)).trans a4, (hG _ (lt_at a3)).trans a5, (hG _ (lt_at a4)).trans a6⟩
    · obtain rfl := List.mem_singleton.1 hb'
      have ng : ¬ (b'.p = g) := fun e => by have := hgB (by omega); omega
      have nq : ¬ (b'.q = g) := fun e => by have := hgB (by omega); omega
      exact ⟨hbk, hbn, (hoff _ hpl (by omega) (fun h => by omega)).trans hpq.p, (hoff _ hql (by omega) (fun h => by omega)).trans hpq.q, by rw [if_neg (by omega), if_neg ng, if_pos (.inl rfl)], by rw [if_neg (by omega), if_neg nq, if_pos (.inr rfl)]⟩
end Go.Proofs.Ytgkblfegjmeolaa
