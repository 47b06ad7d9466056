/- SetProp of a table at a name that is there. -/
import Derived.Test.YtponbhhkccpbfaaDoorNmSetOld
import Derived.Deep.RegionHeld3
namespace Go.Proofs.YtponbhhkccpbfaaDoor
open Go.RowKit Go.Lib Go.Shelf
theorem tcells_ps (l : List (Sy × Value)) (i : Nat) (y : Sy) (v : Value) (h : l[i]? = some (y, v)) (ps : List (Int × Wd)) : tcells (l.set i (⟨y.f, y.has, ps, y.name, y.intd⟩, v)) = tcells l := by
  rw [← tcells_prop l i y v h ps v]
  have := tcells_at l i _ h 3 (by decide)
  apply List.ext_getElem?
  intro q
  rw [List.getElem?_set]
  split
  · rename_i e
    subst e
    rw [this]
    split
    · rfl
    · rename_i h2
      have h3 := List.getElem?_eq_none (Nat.le_of_not_lt h2)
      rw [this] at h3
      cases h3
  · rfl
abbrev pput (w : World) (b k : Nat) (v : Wd) : World := ((w.setCell ⟨b, k * 3 + 1, none⟩ (.int .i64 v.1)).setCell ⟨b, k * 3 + 1 + 1, none⟩ (.int .i64 v.2)).drew
theorem pput_off {w : World} {b k j : Nat} {v : Wd} (h : j ≠ b) : (pput w b k v).heap[j]? = w.heap[j]? := by
  unfold pput
  show ((w.setCell _ _).setCell _ _).heap[j]? = _
  rw [setCell_off _ h, setCell_off _ h]
/-- Where a symbol's properties lie, and the table when one of them is set. -/
theorem TableAt.symPropOld {w : World} {tb : Nat} {G : Nat → Nat} {m : Tb} (h : TableAt w tb G m) {i : Nat} {y : Sy} (hy : m.syms[i]? = some y) {k : Nat} {key : Int} {u : Wd} (hk : y.ps[k]? = some (key, u)) :
    ∃ g c b cs, w.cell? ⟨tb, 0, none⟩ = some (.slice (some ⟨g, 0, none⟩) m.syms.length c) ∧ i < m.syms.length ∧ g < w.heap.size ∧
      w.cell? ⟨g, i * 6 + 3, none⟩ = some (.slice (some ⟨b, 0, none⟩) y.ps.length cs) ∧ Row w G (4 + i) 66 3 (.slice (some ⟨b, 0, none⟩) y.ps.length cs) y.ps.length (pcells y.ps) ∧
      ∀ (v : Wd) (W : World), Below w.heap.size w W → WentT w (pput W b k v) tb G (m.setSy i ⟨y.f, y.has, y.ps.set k (key, v), y.name, y.intd⟩) := by
  obtain ⟨vs, mb, rs, h1, h2, h3, h4, h5, h6⟩ := h.lies
  have hl : rs.length = m.syms.length := by rw [← h2]; simp
  have hi := (List.getElem?_eq_some_iff.1 hy).1
  have hkl := (List.getElem?_eq_some_iff.1 hk).1
  obtain ⟨g, c, cur, rfl, hG, hg, _⟩ := h3.at (by omega)
  obtain ⟨v0, hv⟩ : ∃ v, rs[i]? = some (y, v) := by
    rw [← h2, List.getElem?_map] at hy
    cases hr : rs[i]? with
    | none => rw [hr] at hy; cases hy
    | some p =>
      rw [hr] at hy
      simp at hy
      exact ⟨p.2, by rw [← hy]⟩
  have hp := h6 i y v0 hv
  obtain ⟨b, cs, cu2, rfl, hGb, hgb, _⟩ := hp.at (by omega)
  refine ⟨g, c, b, cs, by rw [cell_at h1, ← hl]; rfl, hi, lt_at hg, h3.cell (i := i * 6 + 3) ?_, hp, fun v W hW => ?_⟩
  · rw [tcells_at rs i _ hv 3 (by decide)]; rfl
  have hoff : ∀ j, j < w.heap.size → G j ≠ 4 + i → (pput W b k v).heap[j]? = w.heap[j]? := fun j hj n4 => (pput_off (fun e => n4 (by rw [e]; exact hGb))).trans (hW.block j hj)
  have hbl := lt_at hgb
  have hkeep : Keeps G w (pput W b k v) := (((Keeps.of_below (G := G) hW).setCell (p := ⟨b, k * 3 + 1, none⟩) (fun _ => by show G b ≠ 0; omega) (.int .i64 v.1)).setCell (p := ⟨b, k * 3 + 1 + 1, none⟩) (fun _ => by show G b ≠ 0; omega) (.int .i64 v.2)).drew
  have hp1 : Row W G (4 + i) 66 3 (.slice (some ⟨b, 0, none⟩) y.ps.length cs) y.ps.length (pcells y.ps) := hp.keep (fun j hj _ => hW.block j hj) (fun _ _ e => e)
  have hp2 := (hp1.store (k * 3 + 1) (.int .i64 v.1)).store (k * 3 + 1 + 1) (.int .i64 v.2)
  rw [pcells_set y.ps k key u v hk] at hp2
  have hlab := h.lab
  have htl := h.lt
  have hsz : (pput W b k v).heap.size = W.heap.size := by simp [pput, World.setCell, World.drew]
  have hWs := hW.size
  refine ⟨hkeep, G, ⟨⟨by rw [Tb.setSy_length]; exact h.ok.len, fun z hz => ?_, fun s => ?_⟩, fun j hj => h.new j (by omega), hlab, .slice (some ⟨g, 0, none⟩) rs.length c, mb, rs.set i (⟨y.f, y.has, y.ps.set k (key, v), y.name, y.intd⟩, .slice (some ⟨b, 0, none⟩) y.ps.length cs), (hoff tb htl (by omega)).trans h1, ?_, ?_, h4, ?_, fun j s u2 hj => ?_⟩, fun _ _ => Iff.rfl⟩
  · rcases List.mem_or_eq_of_mem_set hz with hz | rfl
    · exact h.ok.names z hz
    · exact h.ok.names y (List.mem_of_getElem? hy)
  · have hm := h.ok.maps s
    have e := Tb.find_setSy m i ⟨y.f, y.has, y.ps.set k (key, v), y.name, y.intd⟩ y hy rfl rfl s
    cases hf : m.find s with
    | some k => rw [hf] at hm e; simp only [e]; exact hm
    | none => rw [hf] at hm e; simp only [e]; exact hm
  · rw [List.map_set, h2]; rfl
  · rw [List.length_set, tcells_ps rs i y _ hv]
    exact h3.keep (fun j hj e => hoff j hj (by omega)) (fun _ _ e => e)
  · rw [Tb.setSy_length]; exact ownsMap_move h5 (hoff mb h5.lt (by omega))
  · rw [List.getElem?_set] at hj
    split at hj
    · rename_i e
      subst e
      rw [if_pos (by omega)] at hj
      cases hj
      simp only [List.length_set]
      exact ⟨hp2.own.drew, hp2.lab⟩
    · exact (h6 j _ _ hj).keep (fun q hq e => hoff q hq (by omega)) (fun _ _ e => e)
set_option maxHeartbeats 4000000 in
theorem setprop_old {w : World} {tb : Nat} {G : Nat → Nat} {m : Tb} (h : TableAt w tb G m) {i : Nat} {y : Sy} (hy : m.syms[i]? = some y) (key : Nat) (hkey : key < m.syms.length) {k : Nat} {u : Wd} (v : Wd) (hn : y.ps.length ≤ 16384) (hs : Asc y.ps) (hk : y.ps[k]? = some ((key : Int), u)) :
    Calls Tryd.prog 31 #[hptr tb, .int .i64 i, .int .i64 key, wv v] w fun e w' => e = .returned (.int .i64 0) ∧ WentT w w' tb G (m.setSy i ⟨y.f, y.has, y.ps.set k ((key : Int), v), y.name, y.intd⟩) := by
  have hbw0 := (Below.refl w.heap.size w).alloc (Nat.le_refl _) (.cells #[.int .i64 v.1, .int .i64 v.2] 37)
  have hbw := hbw0.drew
  have k0 := alloc_at w (.cells #[.int .i64 v.1, .int .i64 v.2] 37)
  have hh := h.below hbw
  have hh0 := h.below hbw0
  obtain ⟨g, c, b, cs, c0, hi, hg, c3, hrow, hfin⟩ := hh.symPropOld hy hk
  have hwent : ∀ w', WentT (w.alloc (.cells #[.int .i64 v.1, .int .i64 v.2] 37)).drew w' tb G (m.setSy i ⟨y.f, y.has, y.ps.set k ((key : Int), v), y.name, y.intd⟩) → WentT w w' tb G (m.setSy i ⟨y.f, y.has, y.ps.set k ((key : Int), v), y.name, y.intd⟩) := fun w' h2 => h2.after hbw
  have cV := hh0.valid (by omega)
  have c00 : (w.alloc (.cells #[.int .i64 v.1, .int .i64 v.2] 37)).cell? ⟨tb, 0, none⟩ = some (.slice (some ⟨g, 0, none⟩) m.syms.length c) := c0
  have cA := at_yes tb m.syms.length c g i _ hi c00
  have cA2 := at_yes tb m.syms.length c g i _ hi c0
  have cB := at_yes tb m.syms.length c g key _ hkey c00
  have cS := csetprop_old (key : Int) k u v hrow hn hs hk c3 hg
  have CV := Lib.hid cV
  have CA := Lib.hid cA
  have CA2 := Lib.hid cA2
  have CB := Lib.hid cB
  have CS := Lib.hid cS
  have HF := Lib.hid (And.intro hfin hwent)
  have HZ := Lib.hid (And.intro (show w.heap.size < (w.alloc (.cells #[.int .i64 v.1, .int .i64 v.2] 37)).drew.heap.size from lt_at k0) (h.new w.heap.size (Nat.le_refl _)))
  have u0 : (w.alloc (.cells #[.int .i64 v.1, .int .i64 v.2] 37)).drew.cell? ⟨w.heap.size, 0, none⟩ = some (.int .i64 v.1) := cell_at k0
  have u1 : (w.alloc (.cells #[.int .i64 v.1, .int .i64 v.2] 37)).drew.cell? ⟨w.heap.size, 1, none⟩ = some (.int .i64 v.2) := cell_at k0
  clear h hh hh0 hy hkey hn hs hk hbw hbw0 k0 hi hrow hfin hwent cV cA cA2 cB cS c3 hg c0 c00
  go_enter Tryd.func31, Tryd.ntmps31
  go_wp2_with fail
  refine CV.out.mono ?_
  rintro e w1 ⟨rfl, rfl⟩
  go_wp2_with fail
  refine CA.out.mono ?_
  rintro e w1 ⟨rfl, rfl⟩
  go_wp2_with fail
  refine CB.out.mono ?_
  rintro e w1 ⟨rfl, rfl⟩
  go_wp2_with fail
  go_region_held3 (fun w' => w'.cell? ⟨w.heap.size, 0, none⟩ = some (.int .i64 v.1) ∧ w'.cell? ⟨w.heap.size, 1, none⟩ = some (.int .i64 v.2)) (first | with_reducible exact ⟨u0, u1⟩ | with_reducible exact ⟨z0, z1⟩)
    (first
      | (go_at_call 38; refine CA2.out.mono ?_; rintro e wq ⟨rfl, rfl⟩)
      | (go_at_call 60; refine CS.out.mono ?_; rintro e w9 ⟨W, rfl, hb1, rfl⟩; have hw0 := HF.out.1 v W hb1; have HW := Lib.hid (HF.out.2 _ hw0); have z0 := (World.cell?_of_block (a := ⟨w.heap.size, 0, none⟩) (hw0.keeps.block _ HZ.out.1 HZ.out.2)).trans u0; have z1 := (World.cell?_of_block (a := ⟨w.heap.size, 1, none⟩) (hw0.keeps.block _ HZ.out.1 HZ.out.2)).trans u1; clear hw0 hb1))
  go_wp2
  go_ret
  exact ⟨rfl, HW.out⟩
end Go.Proofs.YtponbhhkccpbfaaDoor
