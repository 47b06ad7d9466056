/- HeapCollect as plain data: the graph, the law's own walk, what a collection leaves. -/
import Derived.Test.YtleppjdmcjocmaaDoorHpCollect
import Derived.Test.YtleppjdmcjocmaaDoorHpKit
namespace Go.Proofs.YtleppjdmcjocmaaDoor
open Go.RowKit Go.Lib
def cw (a : Int) : Wd := (2, pickZ a 41)
def gob (cs ds : List Int) : List (Option Ob) := (cs.zip ds).map fun p => some (.pair (cw p.1) (cw p.2))
def gm (cs ds : List Int) (k : Nat) : Hp := ⟨50, (gob cs ds).take k, []⟩
theorem gob_length {cs ds : List Int} (h : cs.length ≤ ds.length) : (gob cs ds).length = cs.length := by simp [gob]; omega
theorem gob_at {cs ds : List Int} {k : Nat} {c d : Int} (hc : cs[k]? = some c) (hd : ds[k]? = some d) : (gob cs ds)[k]? = some (some (.pair (cw c) (cw d))) := by
  simp only [gob, List.getElem?_map, Option.map_eq_some_iff]
  exact ⟨(c, d), List.getElem?_zip_eq_some.2 ⟨hc, hd⟩, rfl⟩
theorem gob_pair {cs ds : List Int} {k : Nat} {o : Option Ob} (h : (gob cs ds)[k]? = some o) : ∃ c d, cs[k]? = some c ∧ ds[k]? = some d ∧ o = some (.pair (cw c) (cw d)) := by
  simp only [gob, List.getElem?_map, Option.map_eq_some_iff] at h
  obtain ⟨⟨c, d⟩, h1, h2⟩ := h
  have h3 := List.getElem?_zip_eq_some.1 h1
  exact ⟨c, d, h3.1, h3.2, h2.symm⟩
theorem gm_snoc {cs ds : List Int} {k : Nat} {c d : Int} (hc : cs[k]? = some c) (hd : ds[k]? = some d) : gm cs ds (k + 1) = (gm cs ds k).addNew (.pair (cw c) (cw d)) := by
  simp only [gm, Hp.addNew]
  rw [List.take_add_one, gob_at hc hd]
  rfl
theorem total_pairs : ∀ (l : List (Int × Int)), total (l.map fun p => some (Ob.pair (cw p.1) (cw p.2))) = 0
  | [] => rfl
  | p :: l => by
    have := total_pairs l
    simp [total, osize, Ob.size] at this ⊢
    exact this
theorem gm_total (cs ds : List Int) (k : Nat) : total (gm cs ds k).obs = 0 := by
  simp only [gm, gob, ← List.map_take]
  exact total_pairs _
theorem adds_graph {cs ds : List Int} {hb : Nat} {G : Nat → Nat} {k : Nat} {c d : Int} (hl : cs.length ≤ ds.length) (h40 : cs.length ≤ 40) (hc : cs[k]? = some c) (hd : ds[k]? = some d) :
    AddsTo hb G (gm cs ds k) (gm cs ds (k + 1)) (.pair (cw c) (cw d)) (2, (k : Int)) 0 := by
  have hk := (List.getElem?_eq_some_iff.1 hc).1
  have hlen : (gm cs ds k).obs.length = k := by simp [gm, gob_length hl]; omega
  rw [gm_snoc hc hd]
  have h := adds_new (hb := hb) (G := G) (m := gm cs ds k) (o := .pair (cw c) (cw d)) rfl (by rw [hlen]; simp [gm]; omega) (by rw [gm_total]; simp [Ob.size])
  rw [hlen] at h
  exact h
/-- The whole graph. -/
abbrev gmAll (cs ds : List Int) : Hp := gm cs ds cs.length
theorem gmAll_obs {cs ds : List Int} (h : cs.length ≤ ds.length) : (gmAll cs ds).obs = gob cs ds := by
  simp only [gm]
  rw [← gob_length h, List.take_length]
theorem gm_find {cs ds : List Int} (h : cs.length ≤ ds.length) (k : Nat) : (∃ o, (gmAll cs ds).find (2, (k : Int)) = some o) ↔ k < cs.length := by
  unfold Hp.find
  rw [gmAll_obs h]
  simp only [Int.natCast_nonneg, if_true, Int.toNat_natCast]
  constructor
  · rintro ⟨o, ho⟩
    cases hx : (gob cs ds)[k]? with
    | none => rw [hx] at ho; cases ho
    | some u => have := (List.getElem?_eq_some_iff.1 hx).1; rwa [gob_length h] at this
  · intro hk
    obtain ⟨u, hu⟩ : ∃ u, (gob cs ds)[k]? = some u := ⟨_, List.getElem?_eq_getElem (by rw [gob_length h]; exact hk)⟩
    obtain ⟨c, d, _, _, rfl⟩ := gob_pair hu
    rw [hu]
    exact ⟨_, rfl⟩
/-- What holds between two rounds of the law's walk. -/
structure Met (cs ds : List Int) (R : List Wd) (met : List Bool) (todo : List Int) : Prop where
  len : met.length = 41
  rng : ∀ k ∈ todo, 0 ≤ k ∧ k < 41
  only : ∀ j : Nat, met[j]? = some true → j < cs.length ∧ (gmAll cs ds).Reach R j
  stack : ∀ k : Nat, (k : Int) ∈ todo → k < cs.length → (gmAll cs ds).Reach R k
  roots : ∀ x ∈ R, x.2.toNat < cs.length → x.2 ∈ todo ∨ met[x.2.toNat]? = some true
  rest : ∀ (j : Nat) (c d : Int), met[j]? = some true → cs[j]? = some c → ds[j]? = some d → ∀ x : Wd, x = cw c ∨ x = cw d → x.2.toNat < cs.length → x.2 ∈ todo ∨ met[x.2.toNat]? = some true
theorem cw_rng (a : Int) : 0 ≤ (cw a).2 ∧ (cw a).2 < 41 := pickZ_in a 41 (by decide)
theorem Met.start {cs ds : List Int} (h : cs.length ≤ ds.length) (rs : List Int) : Met cs ds (rs.map cw) (List.replicate 41 false) (rs.map fun a => pickZ a 41) := by
  have hf : ∀ j : Nat, (List.replicate 41 false)[j]? ≠ some true := fun j h => by
    have := List.eq_of_mem_replicate (List.mem_of_getElem? h)
    cases this
  refine ⟨by simp, fun k hk => ?_, fun j hj => absurd hj (hf j), fun k hk hkl => ?_, fun x hx _ => ?_, fun j _ _ hj => absurd hj (hf j)⟩
  · obtain ⟨a, _, rfl⟩ := List.mem_map.1 hk
    exact cw_rng a
  · obtain ⟨a, ha, e⟩ := List.mem_map.1 hk
    obtain ⟨o, ho⟩ := (gm_find h k).2 hkl
    have hx : cw a = (2, (k : Int)) := by unfold cw; rw [e]
    have := Hp.Reach.root (m := gmAll cs ds) (R := rs.map cw) (cw a) o (List.mem_map.2 ⟨a, ha, rfl⟩) (by rw [hx]; exact ho)
    rw [hx] at this
    simpa using this
  · obtain ⟨a, ha, rfl⟩ := List.mem_map.1 hx
    exact .inl (List.mem_map.2 ⟨a, ha, rfl⟩)
/-- The last number is dropped: it is none of an object, or marked already. -/
theorem Met.skip {cs ds : List Int} {R : List Wd} {met : List Bool} {todo : List Int} {k : Nat} (h : Met cs ds R met (todo ++ [(k : Int)])) (hk : cs.length ≤ k ∨ met[k]? = some true) : Met cs ds R met todo := by
  obtain ⟨h1, h2, h3, h4, h5, h6⟩ := h
  have hx : ∀ x : Wd, x.2.toNat < cs.length → 0 ≤ x.2 → (x.2 ∈ todo ++ [(k : Int)] ∨ met[x.2.toNat]? = some true) → x.2 ∈ todo ∨ met[x.2.toNat]? = some true := by
    intro x hx hx0 ho
    rcases ho with ho | ho
    · rcases List.mem_append.1 ho with ho | ho
      · exact .inl ho
      · simp at ho
        have : x.2.toNat = k := by omega
        rcases hk with hk | hk
        · omega
        · exact .inr (by rw [this]; exact hk)
    · exact .inr ho
  refine ⟨h1, fun k hk => h2 k (by simp [hk]), h3, fun k hk => h4 k (by simp [hk]), fun x hxR hx2 => ?_, fun j c d hj hc hd x hxw hx2 => ?_⟩
  · by_cases h0 : 0 ≤ x.2
    · exact hx x hx2 h0 (h5 x hxR hx2)
    · rcases h5 x hxR hx2 with ho | ho
      · exact absurd (h2 _ ho).1 h0
      · exact .inr ho
  · refine hx x hx2 ?_ (h6 j c d hj hc hd x hxw hx2)
    rcases hxw with rfl | rfl
    · exact (cw_rng c).1
    · exact (cw_rng d).1
/-- The last number's object is marked, its words follow. -/
theorem Met.take {cs ds : List Int} (hl : cs.length ≤ ds.length) (h40 : cs.length ≤ 40) {R : List Wd} {met : List Bool} {todo : List Int} {k : Nat} {c d : Int} (h : Met cs ds R met (todo ++ [(k : Int)])) (hc : cs[k]? = some c) (hd : ds[k]? = some d) :
    Met cs ds R (met.set k true) (todo ++ [pickZ c 41, pickZ d 41]) := by
  have hk := (List.getElem?_eq_some_iff.1 hc).1
  obtain ⟨h1, h2, h3, h4, h5, h6⟩ := h
  have hkR : (gmAll cs ds).Reach R k := h4 k (by simp) hk
  have hst : ∀ a : Int, (a = c ∨ a = d) → (cw a).2.toNat < cs.length → (gmAll cs ds).Reach R (cw a).2.toNat := by
    intro a ha hl2
    have h0 := (cw_rng a).1
    obtain ⟨o, ho⟩ := (gm_find hl (cw a).2.toNat).2 hl2
    have hx : cw a = (2, ((cw a).2.toNat : Int)) := by
      have : ((cw a).2.toNat : Int) = (cw a).2 := by omega
      rw [this]; rfl
    rw [← hx] at ho
    refine .step k (.pair (cw c) (cw d)) (cw a) o hkR ?_ ?_ ho
    · rw [gmAll_obs hl]; exact gob_at hc hd
    · rcases ha with rfl | rfl <;> simp [Ob.words]
  have hset : ∀ j : Nat, met[j]? = some true → (met.set k true)[j]? = some true := fun j hj => by
    by_cases e : k = j
    · subst e; rw [List.getElem?_set_self (by omega)]
    · rw [List.getElem?_set_ne e]; exact hj
  have hold : ∀ x : Wd, x.2.toNat < cs.length → 0 ≤ x.2 → (x.2 ∈ todo ++ [(k : Int)] ∨ met[x.2.toNat]? = some true) → x.2 ∈ todo ++ [pickZ c 41, pickZ d 41] ∨ (met.set k true)[x.2.toNat]? = some true := by
    intro x hx hx0 ho
    rcases ho with ho | ho
    · rcases List.mem_append.1 ho with ho | ho
      · exact .inl (List.mem_append.2 (.inl ho))
      · simp at ho
        have : x.2.toNat = k := by omega
        exact .inr (by rw [this, List.getElem?_set_self (by omega)])
    · exact .inr (hset _ ho)
  refine ⟨by simpa using h1, fun a ha => ?_, fun j hj => ?_, fun j hj hjl => ?_, fun x hxR hx2 => ?_, fun j c' d' hj hc' hd' x hxw hx2 => ?_⟩
  · rcases List.mem_append.1 ha with ha | ha
    · exact h2 a (by simp [ha])
    · simp at ha
      rcases ha with rfl | rfl
      · exact cw_rng c
      · exact cw_rng d
  · by_cases e : k = j
    · subst e; exact ⟨hk, hkR⟩
    · rw [List.getElem?_set_ne e] at hj; exact h3 j hj
  · rcases List.mem_append.1 hj with hj | hj
    · exact h4 j (by simp [hj]) hjl
    · simp at hj
      rcases hj with e | e
      · have h9 : (cw c).2.toNat = j := by show (pickZ c 41).toNat = j; omega
        have := hst c (.inl rfl) (by omega)
        rwa [h9] at this
      · have h9 : (cw d).2.toNat = j := by show (pickZ d 41).toNat = j; omega
        have := hst d (.inr rfl) (by omega)
        rwa [h9] at this
  · by_cases h0 : 0 ≤ x.2
    · exact hold x hx2 h0 (h5 x hxR hx2)
    · rcases h5 x hxR hx2 with ho | ho
      · exact absurd (h2 _ ho).1 h0
      · exact .inr (hset _ ho)
  · have hx0 : 0 ≤ x.2 := by
      rcases hxw with rfl | rfl
      · exact (cw_rng c').1
      · exact (cw_rng d').1
    by_cases e : k = j
    · subst e
      rw [hc] at hc'
      rw [hd] at hd'
      cases hc'
      cases hd'
      rcases hxw with rfl | rfl
      · exact .inl (by simp [cw])
      · exact .inl (by simp [cw])
    · rw [List.getElem?_set_ne e] at hj
      exact hold x hx2 hx0 (h6 j c' d' hj hc' hd' x hxw hx2)
theorem Met.whole {cs ds : List Int} (hl : cs.length ≤ ds.length) {R : List Wd} {met : List Bool} (h : Met cs ds R met []) (j : Nat) : met[j]? = some true ↔ (gmAll cs ds).Reach R j := by
  refine ⟨fun hj => (h.only j hj).2, fun hr => ?_⟩
  have hlt : ∀ (x : Wd) (o : Ob), (gmAll cs ds).find x = some o → x.2.toNat < cs.length := fun x o hx => by
    have := (List.getElem?_eq_some_iff.1 (Hp.find_at hx)).1
    rw [gmAll_obs hl, gob_length hl] at this
    exact this
  induction hr with
  | root x o h1 h2 =>
    rcases h.roots x h1 (hlt x o h2) with g | g
    · cases g
    · exact g
  | step i o x o' _ h2 h3 h4 ih =>
    rw [gmAll_obs hl] at h2
    obtain ⟨c, d, hc, hd, e⟩ := gob_pair h2
    cases e
    simp [Ob.words] at h3
    rcases h.rest i c d ih hc hd x h3 (hlt x o' h4) with g | g
    · cases g
    · exact g
/-- What a sweep leaves under a number. -/
theorem sweep_at (m : Hp) (b : List Bool) (k j : Nat) (h : j < k) (hj : j < m.obs.length) : (m.sweep b k).obs[j]? = some (if m.gone b j then none else (m.obs[j]?).join) := by
  induction k with
  | zero => omega
  | succ k ih =>
    by_cases hk : j = k
    · subst hk
      simp only [Hp.sweep]
      by_cases hg : m.gone b j
      · rw [if_pos hg, if_pos hg]
        simp only [Hp.drop]
        rw [List.getElem?_set_self (by rw [m.sweep_length]; exact hj)]
      · rw [if_neg hg, if_neg hg, m.sweep_after b j j (Nat.le_refl _), List.getElem?_eq_getElem hj]
        simp
    · have ih := ih (by omega)
      simp only [Hp.sweep]
      by_cases hg : m.gone b k
      · rw [if_pos hg]
        simp only [Hp.drop]
        rw [List.getElem?_set_ne (by omega)]
        exact ih
      · rw [if_neg hg]; exact ih
theorem sweep_free (m : Hp) (b : List Bool) (k : Nat) : (m.sweep b k).free.length = m.free.length + m.many b k := by
  induction k with
  | zero => rfl
  | succ k ih =>
    simp only [Hp.sweep, Hp.many]
    by_cases hg : m.gone b k
    · rw [if_pos hg, if_pos hg]
      simp only [Hp.drop, pushL_length, ih]
      omega
    · rw [if_neg hg, if_neg hg, ih]
/-- The objects that are marked are found as before, no others. -/
theorem sweep_find (m : Hp) (b : List Bool) (x : Wd) : (m.sweep b m.obs.length).find x = if b[x.2.toNat]? = some true then m.find x else none := by
  unfold Hp.find
  by_cases h0 : 0 ≤ x.2
  · rw [if_pos h0, if_pos h0]
    by_cases hx : x.2.toNat < m.obs.length
    · rw [sweep_at m b _ _ hx hx]
      obtain ⟨u, hu⟩ : ∃ u, m.obs[x.2.toNat]? = some u := ⟨_, List.getElem?_eq_getElem hx⟩
      cases u with
      | none =>
        have hg : m.gone b x.2.toNat = false := by simp [Hp.gone, hu]
        simp [hu, hg]
      | some o =>
        by_cases hb : b[x.2.toNat]? = some true
        · have hg : m.gone b x.2.toNat = false := by simp [Hp.gone, hu, hb]
          simp [hu, hg, hb]
        · have hg : m.gone b x.2.toNat = true := by simp [Hp.gone, hu, hb]
          simp [hg, hb]
    · have e1 : m.obs[x.2.toNat]? = none := List.getElem?_eq_none (by omega)
      have e2 : (m.sweep b m.obs.length).obs[x.2.toNat]? = none := List.getElem?_eq_none (by rw [m.sweep_length]; omega)
      rw [e1, e2]
      simp
  · rw [if_neg h0, if_neg h0]
    simp
/-- A second collection finds nothing. -/
theorem second_none (m : Hp) (R : List Wd) (b b2 : List Bool) (hb : ∀ j : Nat, b[j]? = some true ↔ m.Reach R j) (hb2 : ∀ j : Nat, b2[j]? = some true ↔ (m.sweep b m.obs.length).Reach R j) (j : Nat) : (m.sweep b m.obs.length).gone b2 j = false := by
  have hr : ∀ i, m.Reach R i → (m.sweep b m.obs.length).Reach R i := by
    intro i hi
    have key : ∀ (x : Wd) (o : Ob), m.Reach R x.2.toNat → m.find x = some o → (m.sweep b m.obs.length).find x = some o := fun x o h1 h2 => by
      rw [sweep_find, if_pos ((hb _).2 h1)]; exact h2
    induction hi with
    | root x o h1 h2 => exact .root x o h1 (key x o (.root x o h1 h2) h2)
    | step i o x o' h1 h2 h3 h4 ih =>
      refine .step i o x o' ih ?_ h3 (key x o' (.step i o x o' h1 h2 h3 h4) h4)
      have hi := (List.getElem?_eq_some_iff.1 h2).1
      have hg : m.gone b i = false := by simp [Hp.gone, h2, (hb i).2 h1]
      rw [sweep_at m b _ _ hi hi, h2, hg]
      rfl
  unfold Hp.gone
  cases hu : (m.sweep b m.obs.length).obs[j]? with
  | none => rfl
  | some u =>
    cases u with
    | none => rfl
    | some o =>
      have hj := (List.getElem?_eq_some_iff.1 hu).1
      rw [m.sweep_length] at hj
      rw [sweep_at m b _ _ hj hj] at hu
      have hR : m.Reach R j := by
        apply Classical.byContradiction
        intro hn
        have hbn : ¬ b[j]? = some true := fun h => hn ((hb j).1 h)
        obtain ⟨u, hu2⟩ : ∃ u, m.obs[j]? = some u := ⟨_, List.getElem?_eq_getElem hj⟩
        rw [hu2] at hu
        cases u with
        | none => simp [Hp.gone, hu2] at hu
        | some o2 => simp [Hp.gone, hu2, hbn] at hu
      have := (hb2 j).2 (hr j hR)
      simp [this]
theorem many_zero (m : Hp) (b : List Bool) (h : ∀ j, m.gone b j = false) (k : Nat) : m.many b k = 0 ∧ m.sweep b k = m := by
  induction k with
  | zero => exact ⟨rfl, rfl⟩
  | succ k ih => simp [Hp.many, Hp.sweep, h k, ih.1, ih.2]
theorem many_count {cs ds : List Int} (hl : cs.length ≤ ds.length) (b met : List Bool) (hm : 40 < met.length) (h40 : cs.length ≤ 40) (hb : ∀ j : Nat, b[j]? = some true ↔ met[j]? = some true) (k : Nat) (hk : k ≤ cs.length) : (gmAll cs ds).many b k + (met.take k).count true = k := by
  induction k with
  | zero => simp [Hp.many]
  | succ k ih =>
    have ih := ih (by omega)
    obtain ⟨v, hv⟩ : ∃ v, met[k]? = some v := ⟨_, List.getElem?_eq_getElem (by omega)⟩
    obtain ⟨u, hu⟩ : ∃ u, (gob cs ds)[k]? = some u := ⟨_, List.getElem?_eq_getElem (by rw [gob_length hl]; omega)⟩
    obtain ⟨c, d, _, _, rfl⟩ := gob_pair hu
    have hu2 : (gmAll cs ds).obs[k]? = some (some (.pair (cw c) (cw d))) := by rw [gmAll_obs hl]; exact hu
    rw [List.take_add_one, hv]
    simp only [Hp.many]
    cases v with
    | true =>
      have hg : (gmAll cs ds).gone b k = false := by simp [Hp.gone, hu2, (hb k).2 hv]
      simp [hg, List.count_append]
      omega
    | false =>
      have hbn : ¬ b[k]? = some true := fun h => by have := (hb k).1 h; rw [hv] at this; cases this
      have hg : (gmAll cs ds).gone b k = true := by simp [Hp.gone, hu2, hbn]
      simp [hg, List.count_append]
      omega
end Go.Proofs.YtleppjdmcjocmaaDoor
