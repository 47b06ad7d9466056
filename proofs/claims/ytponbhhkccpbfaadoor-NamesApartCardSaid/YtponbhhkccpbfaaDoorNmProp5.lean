/- SetProp of a table: a name behind all others of a symbol. -/
import Derived.Test.YtponbhhkccpbfaaDoorNmProp4
namespace Go.Proofs.YtponbhhkccpbfaaDoor
open Go.RowKit Go.Lib Go.Shelf
theorem tcells_prop (l : List (Sy × Value)) (i : Nat) (y : Sy) (v : Value) (h : l[i]? = some (y, v)) (ps : List (Int × Wd)) (v' : Value) :
    (tcells l).set (i * 6 + 3) v' = tcells (l.set i (⟨y.f, y.has, ps, y.name, y.intd⟩, v')) := by
  have hi := (List.getElem?_eq_some_iff.1 h).1
  obtain ⟨hl, hat⟩ := tcells_set l i (⟨y.f, y.has, ps, y.name, y.intd⟩, v') hi
  have hlen := tcells_length l
  apply List.ext_getElem?
  intro q
  obtain ⟨k, j, hj, rfl⟩ : ∃ k j, j < 6 ∧ q = k * 6 + j := ⟨q / 6, q % 6, Nat.mod_lt _ (by decide), by omega⟩
  rw [hat k j hj]
  simp only [List.getElem?_set, hlen]
  by_cases hk : k = i
  · subst hk
    have hold := fun j hj => tcells_at l k _ h j hj
    rw [if_pos rfl]
    match j, hj with
    | 0, _ => rw [if_neg (by omega)]; exact hold 0 (by decide)
    | 1, _ => rw [if_neg (by omega)]; exact hold 1 (by decide)
    | 2, _ => rw [if_neg (by omega)]; exact hold 2 (by decide)
    | 3, _ => rw [if_pos (by omega), if_pos (by omega)]; rfl
    | 4, _ => rw [if_neg (by omega)]; exact hold 4 (by decide)
    | 5, _ => rw [if_neg (by omega)]; exact hold 5 (by decide)
  · rw [if_neg (by omega), if_neg hk]
theorem pcells_new (ps : List (Int × Wd)) (key : Int) (v : Wd) : (((pcells ps) ++ [Value.int .i64 key, .int .i64 0, .int .i64 0]).set (ps.length * 3 + 1) (.int .i64 v.1)).set (ps.length * 3 + 1 + 1) (.int .i64 v.2) = pcells (ps ++ [(key, v)]) := by
  have hl := pcells_length ps
  rw [pcells_append, List.set_append_right _ _ (by omega), List.set_append_right _ _ (by omega), hl, show ps.length * 3 + 1 - ps.length * 3 = 1 by omega, show ps.length * 3 + 1 + 1 - ps.length * 3 = 2 by omega]
  rfl
/-- Where a symbol's properties lie, and the table when a property comes behind the others. -/
theorem TableAt.symProps {w : World} {tb : Nat} {G : Nat → Nat} {m : Tb} (h : TableAt w tb G m) {i : Nat} {y : Sy} (hy : m.syms[i]? = some y) :
    ∃ g c a cs, w.cell? ⟨tb, 0, none⟩ = some (.slice (some ⟨g, 0, none⟩) m.syms.length c) ∧ i < m.syms.length ∧ g < w.heap.size ∧ G g = 2 ∧
      w.cell? ⟨g, i * 6 + 3, none⟩ = some (.slice a y.ps.length cs) ∧ w.frozen? ⟨g, i * 6 + 3, none⟩ = false ∧ Row w G (4 + i) 66 3 (.slice a y.ps.length cs) y.ps.length (pcells y.ps) ∧
      ∀ (key : Int) (v : Wd) (W w1 : World) (b' cap : Nat), Below w.heap.size w W → g ≠ b' → Row w1 (fun k => if k < W.heap.size then G k else 4 + i) (4 + i) 66 3 (.slice (some ⟨b', 0, none⟩) (y.ps.length + 1) cap) (y.ps.length + 1) (pcells y.ps ++ [.int .i64 key, .int .i64 0, .int .i64 0]) →
        W.grownBy w1 (Value.slice a y.ps.length cs).ownBlock →
        WentT w ((((w1.setCell ⟨g, i * 6 + 3, none⟩ (.slice (some ⟨b', 0, none⟩) (y.ps.length + 1) cap)).setCell ⟨b', y.ps.length * 3 + 1, none⟩ (.int .i64 v.1)).setCell ⟨b', y.ps.length * 3 + 1 + 1, none⟩ (.int .i64 v.2)).drew) tb G (m.setSy i ⟨y.f, y.has, y.ps ++ [(key, v)], y.name, y.intd⟩) := by
  obtain ⟨vs, mb, rs, h1, h2, h3, h4, h5, h6⟩ := h.lies
  have hl : rs.length = m.syms.length := by rw [← h2]; simp
  have hi := (List.getElem?_eq_some_iff.1 hy).1
  obtain ⟨g, c, cur, rfl, hG, hg, _⟩ := h3.at (by omega)
  obtain ⟨v0, hv⟩ : ∃ v, rs[i]? = some (y, v) := by
    rw [← h2, List.getElem?_map] at hy
    cases hr : rs[i]? with
    | none => rw [hr] at hy; cases hy
    | some p =>
      rw [hr] at hy
      simp at hy
      exact ⟨p.2, by rw [← hy]⟩
  have hp := h6 i y v0 hv
  obtain ⟨a, cs, rfl⟩ := hp.slice
  refine ⟨g, c, a, cs, by rw [cell_at h1, ← hl]; rfl, hi, lt_at hg, hG, h3.cell (i := i * 6 + 3) ?_, frozen_at hg, hp, fun key v W w1 b' cap hW hne hr1 hgr => ?_⟩
  · rw [tcells_at rs i _ hv 3 (by decide)]; rfl
  obtain ⟨cap2, cu2, e0, hGb, hgb, _⟩ : ∃ cap2 cu2, (Value.slice (some ⟨b', 0, none⟩) (y.ps.length + 1) cap) = .slice (some ⟨b', 0, none⟩) (y.ps.length + 1) cap2 ∧ (if b' < W.heap.size then G b' else 4 + i) = 4 + i ∧ w1.heap[b']? = some (.cells cu2 66 (0, 0)) ∧ True := by
    obtain ⟨gg, cap2, cu2, e, e1, e2, _⟩ := hr1.at (by omega)
    cases e
    exact ⟨_, cu2, rfl, e1, e2, trivial⟩
  have hWs := hW.size
  have hws := hgr.size
  have hlb := lt_at hgb
  have hlg := lt_at hg
  have hown : ∀ k, (Value.slice a y.ps.length cs).ownBlock = some k → G k = 4 + i ∧ k < w.heap.size := fun k hk => ⟨hp.lab k hk, hp.lt k hk⟩
  -- what is neither the symbols' row nor the new row of properties stands
  have hoff : ∀ k, k < w.heap.size → G k ≠ 2 → G k ≠ 4 + i → ((((w1.setCell ⟨g, i * 6 + 3, none⟩ (.slice (some ⟨b', 0, none⟩) (y.ps.length + 1) cap)).setCell ⟨b', y.ps.length * 3 + 1, none⟩ (.int .i64 v.1)).setCell ⟨b', y.ps.length * 3 + 1 + 1, none⟩ (.int .i64 v.2)).drew).heap[k]? = w.heap[k]? := fun k hk n2 n4 => by
    have hkg : k ≠ g := fun e => n2 (by rw [e]; exact hG)
    have hkb : k ≠ b' := fun e => by
      subst e
      rw [if_pos (by omega)] at hGb
      exact n4 hGb
    show (((w1.setCell ⟨g, i * 6 + 3, none⟩ _).setCell ⟨b', y.ps.length * 3 + 1, none⟩ _).setCell ⟨b', y.ps.length * 3 + 1 + 1, none⟩ _).heap[k]? = _
    rw [setCell_off _ hkb, setCell_off _ hkb, setCell_off _ hkg, hgr.block k (by omega) (fun e => n4 (hown k e.symm).1), hW.block k hk]
  have hGb2 : b' < w.heap.size → G b' = 4 + i := fun hb => by rw [if_pos (by omega)] at hGb; exact hGb
  have hGb0 : ¬ b' < w.heap.size → G b' = 0 := fun hb => h.new b' (by omega)
  have hkeep := (((((Keeps.of_below (G := G) hW).grown hgr (fun k hk hk2 => by have := (hown k hk).1; omega)).setCell (p := ⟨g, i * 6 + 3, none⟩) (fun _ => by show G g ≠ 0; omega) (.slice (some ⟨b', 0, none⟩) (y.ps.length + 1) cap)).setCell (p := ⟨b', y.ps.length * 3 + 1, none⟩) (fun hb => by have := hGb2 hb; show G b' ≠ 0; omega) (.int .i64 v.1)).setCell (p := ⟨b', y.ps.length * 3 + 1 + 1, none⟩) (fun hb => by have := hGb2 hb; show G b' ≠ 0; omega) (.int .i64 v.2)).drew
  have hrow1 : Row w1 G 2 80 6 (.slice (some ⟨g, 0, none⟩) rs.length c) rs.length (tcells rs) := h3.keep (fun k hk e => by rw [hgr.block k (by omega) (fun e2 => by have := (hown k e2.symm).1; omega), hW.block k hk]) (fun _ _ e => e)
  have hrow2 := hrow1.store (i * 6 + 3) (.slice (some ⟨b', 0, none⟩) (y.ps.length + 1) cap)
  rw [tcells_prop rs i y _ hv (y.ps ++ [(key, v)]) _] at hrow2
  have hpr1 : Row (w1.setCell ⟨g, i * 6 + 3, none⟩ (.slice (some ⟨b', 0, none⟩) (y.ps.length + 1) cap)) (fun k => if k < W.heap.size then G k else 4 + i) (4 + i) 66 3 (.slice (some ⟨b', 0, none⟩) (y.ps.length + 1) cap) (y.ps.length + 1) (pcells y.ps ++ [.int .i64 key, .int .i64 0, .int .i64 0]) :=
    hr1.keep (fun k hk e => setCell_off _ (fun e2 => by rw [show k = g from e2, if_pos (by omega), hG] at e; omega)) (fun _ _ e => e)
  have hpr2 := (hpr1.store (y.ps.length * 3 + 1) (.int .i64 v.1)).store (y.ps.length * 3 + 1 + 1) (.int .i64 v.2)
  rw [pcells_new] at hpr2
  have hlab := h.lab
  have htl := h.lt
  have hml := h5.lt
  generalize hwz : ((((w1.setCell ⟨g, i * 6 + 3, none⟩ (.slice (some ⟨b', 0, none⟩) (y.ps.length + 1) cap)).setCell ⟨b', y.ps.length * 3 + 1, none⟩ (.int .i64 v.1)).setCell ⟨b', y.ps.length * 3 + 1 + 1, none⟩ (.int .i64 v.2)).drew) = wz at *
  have hwzs : wz.heap.size = w1.heap.size := by rw [← hwz]; simp [World.setCell, World.drew]
  refine ⟨hkeep, fun k => if k < W.heap.size then G k else if k = b' then 4 + i else 0, ⟨⟨by rw [Tb.setSy_length]; exact h.ok.len, fun z hz => ?_, fun s => ?_⟩, fun k hk => ?_, ?_, .slice (some ⟨g, 0, none⟩) rs.length c, mb, rs.set i (⟨y.f, y.has, y.ps ++ [(key, v)], y.name, y.intd⟩, .slice (some ⟨b', 0, none⟩) (y.ps.length + 1) cap), (hoff tb htl (by omega) (by omega)).trans h1, ?_, ?_, ?_, ?_, fun k s u hk => ?_⟩, fun k hk => by simp only; rw [if_pos (by omega)]⟩
  · rcases List.mem_or_eq_of_mem_set hz with hz | rfl
    · exact h.ok.names z hz
    · exact h.ok.names y (List.mem_of_getElem? hy)
  · have hm := h.ok.maps s
    have e := Tb.find_setSy m i ⟨y.f, y.has, y.ps ++ [(key, v)], y.name, y.intd⟩ y hy rfl rfl s
    cases hf : m.find s with
    | some k => rw [hf] at hm e; simp only [e]; exact hm
    | none => rw [hf] at hm e; simp only [e]; exact hm
  · rw [if_neg (by omega), if_neg (by omega)]
  · rw [if_pos (by omega)]
    exact hlab
  · rw [List.map_set, h2]; rfl
  · rw [List.length_set]
    refine hrow2.keep (fun k hk e => ?_) (fun k hk e => ?_)
    · have hkb : k ≠ b' := fun e2 => by
        by_cases hb : b' < w.heap.size
        · have := hGb2 hb; rw [e2] at e; omega
        · have := hGb0 hb; rw [e2] at e; omega
      rw [← hwz]
      show ((( w1.setCell ⟨g, i * 6 + 3, none⟩ _).setCell ⟨b', y.ps.length * 3 + 1, none⟩ _).setCell ⟨b', y.ps.length * 3 + 1 + 1, none⟩ _).heap[k]? = _
      rw [setCell_off _ hkb, setCell_off _ hkb]
    · have hkw : k < w.heap.size := by
        rcases Nat.lt_or_ge k w.heap.size with h8 | h8
        · exact h8
        · have := h.new k h8; omega
      rw [if_pos (by omega)]
      exact e
  · rw [if_pos (by omega)]
    exact h4
  · rw [Tb.setSy_length]; exact ownsMap_move h5 (hoff mb (by omega) (by omega) (by omega))
  · rw [List.getElem?_set] at hk
    split at hk
    · rename_i e
      subst e
      rw [if_pos (by omega)] at hk
      cases hk
      simp only [List.length_append, List.length_cons, List.length_nil]
      refine ⟨?_, fun k hk => ?_⟩
      · rw [← hwz]; exact hpr2.own.drew
      · cases hk
        simp only
        split
        · rename_i hb
          rw [if_pos hb] at hGb
          exact hGb
        · rfl
    · rename_i hki
      refine (h6 k _ _ hk).keep (fun j hj e => hoff j hj (by omega) (by omega)) (fun j hj e => ?_)
      rw [if_pos (by omega)]
      exact e
end Go.Proofs.YtponbhhkccpbfaaDoor
