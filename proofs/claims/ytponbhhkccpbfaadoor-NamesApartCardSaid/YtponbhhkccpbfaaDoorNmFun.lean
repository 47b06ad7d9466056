/- A symbol's own cells are set: what the table is then. -/
import Derived.Test.YtponbhhkccpbfaaDoorNmNames
import Derived.Laws.OwnMore
namespace Go.Proofs.YtponbhhkccpbfaaDoor
open Go.RowKit Go.Lib Go.Shelf
theorem Row.store {w : World} {G : Nat → Nat} {L : Nat} {e : TypeId} {size g cap n : Nat} {xs : List Value} (h : Row w G L e size (.slice (some ⟨g, 0, none⟩) n cap) n xs) (j : Nat) (u : Value) :
    Row (w.setCell ⟨g, j, none⟩ u) G L e size (.slice (some ⟨g, 0, none⟩) n cap) n (xs.set j u) := ⟨(h.own.stored j u).1, h.lab⟩
def Tb.setSy (m : Tb) (i : Nat) (y : Sy) : Tb := ⟨m.syms.set i y, m.D⟩
theorem Tb.setSy_length (m : Tb) (i : Nat) (y : Sy) : (m.setSy i y).syms.length = m.syms.length := by simp [Tb.setSy]
theorem Tb.setSy_at (m : Tb) (i : Nat) (y : Sy) (hi : i < m.syms.length) (j : Nat) : (m.setSy i y).syms[j]? = if i = j then some y else m.syms[j]? := by
  simp only [Tb.setSy, List.getElem?_set]
  split
  · rfl
  · rfl
theorem Tb.find_setSy (m : Tb) (i : Nat) (y y0 : Sy) (h0 : m.syms[i]? = some y0) (hn : y.name = y0.name) (hb : y.intd = y0.intd) (s : ByteArray) : (m.setSy i y).find s = m.find s := by
  have hm : (m.syms.set i y).map (fun y => (y.name, y.intd)) = m.syms.map (fun y => (y.name, y.intd)) := by
    apply List.ext_getElem?
    intro j
    simp only [List.getElem?_map, List.getElem?_set]
    split
    · rename_i h
      subst h
      have hi := (List.getElem?_eq_some_iff.1 h0).1
      rw [if_pos hi, h0]
      simp [hn, hb]
    · rfl
  have he : ∀ l : List Sy, l.findIdx? (fun y => y.intd && decide (y.name.data.toList = s.data.toList)) = (l.map (fun y => (y.name, y.intd))).findIdx? (fun p => p.2 && decide (p.1.data.toList = s.data.toList)) := by
    intro l
    rw [List.findIdx?_map]
    rfl
  unfold Tb.find Tb.setSy
  simp only
  rw [he, he, hm]
theorem tcells_set (l : List (Sy × Value)) (i : Nat) (p : Sy × Value) (h : i < l.length) : (tcells (l.set i p)).length = (tcells l).length ∧ ∀ k j, j < 6 → (tcells (l.set i p))[k * 6 + j]? = if k = i then (scells p.1 p.2)[j]? else (tcells l)[k * 6 + j]? := by
  refine ⟨by simp [tcells_length], fun k j hj => ?_⟩
  by_cases hk : k < l.length
  · by_cases hki : k = i
    · subst hki
      rw [if_pos rfl, tcells_at _ k p (by simp [h]) j hj]
    · rw [if_neg hki]
      have h1 : l[k]? = some l[k] := List.getElem?_eq_getElem hk
      rw [tcells_at l k _ h1 j hj, tcells_at (l.set i p) k l[k] (by rw [List.getElem?_set_ne (by omega), h1]) j hj]
  · rw [if_neg (by omega), List.getElem?_eq_none (by rw [tcells_length]; simp; omega), List.getElem?_eq_none (by rw [tcells_length]; omega)]
/-- The first three cells of a symbol are stored anew. -/
theorem tcells_fun (l : List (Sy × Value)) (i : Nat) (y : Sy) (v : Value) (h : l[i]? = some (y, v)) (x : Wd) (b : Bool) :
    (((tcells l).set (i * 6) (.int .i64 x.1)).set (i * 6 + 1) (.int .i64 x.2)).set (i * 6 + 2) (.bool b) = tcells (l.set i (⟨x, b, y.ps, y.name, y.intd⟩, v)) := by
  have hi := (List.getElem?_eq_some_iff.1 h).1
  obtain ⟨hl, hat⟩ := tcells_set l i (⟨x, b, y.ps, y.name, y.intd⟩, v) hi
  have hlen := tcells_length l
  apply List.ext_getElem?
  intro q
  obtain ⟨k, j, hj, rfl⟩ : ∃ k j, j < 6 ∧ q = k * 6 + j := ⟨q / 6, q % 6, Nat.mod_lt _ (by decide), by omega⟩
  rw [hat k j hj]
  simp only [List.getElem?_set, List.length_set, hlen]
  by_cases hk : k = i
  · subst hk
    have hold := fun j hj => tcells_at l k _ h j hj
    rw [if_pos rfl]
    match j, hj with
    | 0, _ => rw [if_neg (by omega), if_neg (by omega), if_pos (by omega), if_pos (by omega)]; rfl
    | 1, _ => rw [if_neg (by omega), if_pos (by omega), if_pos (by omega)]; rfl
    | 2, _ => rw [if_pos (by omega), if_pos (by omega)]; rfl
    | 3, _ => rw [if_neg (by omega), if_neg (by omega), if_neg (by omega), hold 3 (by decide)]; rfl
    | 4, _ => rw [if_neg (by omega), if_neg (by omega), if_neg (by omega), hold 4 (by decide)]; rfl
    | 5, _ => rw [if_neg (by omega), if_neg (by omega), if_neg (by omega), hold 5 (by decide)]; rfl
  · rw [if_neg (by omega), if_neg (by omega), if_neg (by omega), if_neg hk]
def fput (w : World) (g j : Nat) (x : Wd) (b : Bool) : World := ((w.setCell ⟨g, j, none⟩ (.int .i64 x.1)).setCell ⟨g, j + 1, none⟩ (.int .i64 x.2)).setCell ⟨g, j + 2, none⟩ (.bool b)
theorem fput_off {w : World} {g j k : Nat} {x : Wd} {b : Bool} (h : k ≠ g) : (fput w g j x b).heap[k]? = w.heap[k]? := by
  unfold fput
  rw [setCell_off _ h, setCell_off _ h, setCell_off _ h]
theorem fput_size (w : World) (g j : Nat) (x : Wd) (b : Bool) : (fput w g j x b).heap.size = w.heap.size := by simp [fput, World.setCell]
/-- A symbol's own cells, and the table when they are set. -/
theorem TableAt.symRow {w : World} {tb : Nat} {G : Nat → Nat} {m : Tb} (h : TableAt w tb G m) {i : Nat} {y : Sy} (hy : m.syms[i]? = some y) :
    ∃ g c, w.cell? ⟨tb, 0, none⟩ = some (.slice (some ⟨g, 0, none⟩) m.syms.length c) ∧ i < m.syms.length ∧ g < w.heap.size ∧ G g = 2 ∧
      w.cell? ⟨g, i * 6, none⟩ = some (.int .i64 y.f.1) ∧ w.cell? ⟨g, i * 6 + 1, none⟩ = some (.int .i64 y.f.2) ∧ w.cell? ⟨g, i * 6 + 2, none⟩ = some (.bool y.has) ∧ (∀ j, w.frozen? ⟨g, j, none⟩ = false) ∧
      ∀ x b, TableAt (fput w g (i * 6) x b) tb G (m.setSy i ⟨x, b, y.ps, y.name, y.intd⟩) := by
  obtain ⟨vs, mb, rs, h1, h2, h3, h4, h5, h6⟩ := h.lies
  have hl : rs.length = m.syms.length := by rw [← h2]; simp
  have hi := (List.getElem?_eq_some_iff.1 hy).1
  obtain ⟨g, c, cur, rfl, hG, hg, _⟩ := h3.at (by omega)
  obtain ⟨v, hv⟩ : ∃ v, rs[i]? = some (y, v) := by
    rw [← h2, List.getElem?_map] at hy
    cases hr : rs[i]? with
    | none => rw [hr] at hy; cases hy
    | some p =>
      rw [hr] at hy
      simp at hy
      exact ⟨p.2, by rw [← hy]⟩
  refine ⟨g, c, by rw [cell_at h1, ← hl]; rfl, hi, lt_at hg, hG, h3.cell (i := i * 6) ?_, h3.cell (i := i * 6 + 1) ?_, h3.cell (i := i * 6 + 2) ?_, fun j => frozen_at hg, fun x b => ?_⟩
  · have := tcells_at rs i _ hv 0 (by decide); simpa [scells] using this
  · rw [tcells_at rs i _ hv 1 (by decide)]; rfl
  · rw [tcells_at rs i _ hv 2 (by decide)]; rfl
  have hoff : ∀ k, G k ≠ 2 → (fput w g (i * 6) x b).heap[k]? = w.heap[k]? := fun k hk => fput_off (by intro e; subst e; exact hk hG)
  have hrow := ((h3.store (i * 6) (.int .i64 x.1)).store (i * 6 + 1) (.int .i64 x.2)).store (i * 6 + 2) (.bool b)
  rw [tcells_fun rs i y v hv x b] at hrow
  have hlab := h.lab
  refine ⟨⟨by rw [Tb.setSy_length]; exact h.ok.len, fun z hz => ?_, fun s => ?_⟩, fun k hk => h.new k (by rw [fput_size] at hk; exact hk), h.lab, .slice (some ⟨g, 0, none⟩) rs.length c, mb, rs.set i (⟨x, b, y.ps, y.name, y.intd⟩, v), (hoff tb (by omega)).trans h1, ?_, ?_, h4, ?_, fun k s u hk => ?_⟩
  · rcases List.mem_or_eq_of_mem_set hz with hz | rfl
    · exact h.ok.names z hz
    · exact h.ok.names y (List.mem_of_getElem? hy)
  · have hm := h.ok.maps s
    have e := Tb.find_setSy m i ⟨x, b, y.ps, y.name, y.intd⟩ y hy rfl rfl s
    cases hf : m.find s with
    | some k => rw [hf] at hm e; simp only [e]; exact hm
    | none => rw [hf] at hm e; simp only [e]; exact hm
  · rw [List.map_set, h2]; rfl
  · rw [List.length_set]; exact hrow
  · rw [Tb.setSy_length]; exact ownsMap_move h5 (hoff mb (by omega))
  · rw [List.getElem?_set] at hk
    split at hk
    · rename_i e
      subst e
      rw [if_pos (by omega)] at hk
      cases hk
      exact (h6 i _ _ hv).keep (fun k _ e => hoff k (by omega)) (fun _ _ e => e)
    · exact (h6 k _ _ hk).keep (fun k _ e => hoff k (by omega)) (fun _ _ e => e)
theorem fput_keeps {w : World} {G : Nat → Nat} {g j : Nat} {x : Wd} {b : Bool} (hg : G g ≠ 0) : Keeps G w (fput w g j x b) := (((Keeps.refl G w).setCell (fun _ => hg) _).setCell (fun _ => hg) _).setCell (fun _ => hg) _
end Go.Proofs.YtponbhhkccpbfaaDoor
