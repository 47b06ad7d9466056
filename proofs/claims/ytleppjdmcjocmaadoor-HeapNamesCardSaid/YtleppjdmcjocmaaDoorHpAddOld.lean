/- add where a number is free: the object gets the smallest free number. -/
import Derived.Test.YtleppjdmcjocmaaDoorHpOld
import Derived.Test.YtleppjdmcjocmaaDoorHpMade
namespace Go.Proofs.YtleppjdmcjocmaaDoor
open Go.RowKit Go.Lib
def Hp.addOld (m : Hp) (o : Ob) : Hp := ⟨m.lim, m.obs.set (leastL m.free).toNat (some o), restL m.free⟩
theorem total_some : ∀ (l : List (Option Ob)) (k : Nat) (o : Ob), l[k]? = some none → total (l.set k (some o)) = total l + o.size
  | [], k, o, h => by simp at h
  | u :: l, 0, o, h => by
    simp at h
    subst h
    simp [total, osize]
    omega
  | u :: l, k + 1, o, h => by
    have := total_some l k o (by simpa using h)
    simp [total] at this ⊢
    omega
theorem Hp.Ok.least {m : Hp} (h : m.Ok) (hf : 0 < m.free.length) : ∃ i : Nat, leastL m.free = i ∧ m.obs[i]? = some none := by
  have hm : leastL m.free ∈ m.free := (leastL_perm m.free hf).mem_iff.1 (by simp)
  exact (h.free _).1 hm
theorem Hp.Ok.addOld {m : Hp} {o : Ob} (h : m.Ok) (hf : 0 < m.free.length) (hs : total m.obs + o.size ≤ 1048576) : (m.addOld o).Ok := by
  obtain ⟨i, hi, hn⟩ := h.least hf
  have hp := leastL_perm m.free hf
  have hnd := (hp.nodup_iff).2 h.once
  have hil := (List.getElem?_eq_some_iff.1 hn).1
  refine ⟨h.lim1, h.lim2, by simpa [Hp.addOld] using h.len, ?_, fun j => ?_, ?_⟩
  · simp only [Hp.addOld, hi, Int.toNat_natCast]
    rw [total_some _ _ _ hn]; exact hs
  · simp only [Hp.addOld, hi, Int.toNat_natCast]
    have h1 : j ∈ m.free ↔ j ∈ restL m.free ∨ j = leastL m.free := by rw [← hp.mem_iff]; simp
    have h2 : leastL m.free ∉ restL m.free := fun hm => by
      rw [List.nodup_append] at hnd
      exact hnd.2.2 _ hm _ (by simp) rfl
    constructor
    · intro hj
      obtain ⟨n, e, hn2⟩ := (h.free j).1 (h1.2 (.inl hj))
      refine ⟨n, e, ?_⟩
      rw [List.getElem?_set_ne (fun e2 => h2 (by rw [hi, e2, ← e]; exact hj))]
      exact hn2
    · rintro ⟨n, e, hn2⟩
      by_cases hin : i = n
      · subst hin
        rw [List.getElem?_set_self hil] at hn2
        cases hn2
      · rw [List.getElem?_set_ne hin] at hn2
        rcases h1.1 ((h.free j).2 ⟨n, e, hn2⟩) with h3 | h3
        · exact h3
        · rw [hi, e] at h3; omega
  · simp only [Hp.addOld]
    rw [List.nodup_append] at hnd
    exact hnd.1
/-- What place leaves where a number was free, with what add does ahead of it. -/
structure PlacedOld (w w3 : World) (hb : Nat) (G : Nat → Nat) (lim st : Int) (n : Nat) (xs : List Value) (fl : List Int) : Prop where
  os : w3.os = w.os
  tape : w3.tape = w.tape
  output : w3.output = w.output
  size : w3.heap.size = w.heap.size + 1
  block : ∀ k, k < w.heap.size → G k ≠ 1 → G k ≠ 2 → G k ≠ 3 → w3.heap[k]? = w.heap[k]?
  lies : ∃ vo vf, w3.heap[hb]? = some (.cells #[.int .i64 lim, vo, vf, .int .i64 st] 67 (0, 0)) ∧ Row w3 G 2 80 1 vo n xs ∧ Row w3 G 3 3 1 vf fl.length (ints fl)
theorem place_old_in_add {hb n i : Nat} {l : List Int} {lim st st0 : Int} {vo vf : Value} {xs : List Value} {G : Nat → Nat} {w : World} (T : TypeId) (p : Value) (h0 : 0 < l.length) (hl : l.length ≤ 65536) (hi : leastL l = (i : Int)) (hin : i < n) (hn : n ≤ 65536)
    (hh : w.heap[hb]? = some (.cells #[.int .i64 lim, vo, vf, .int .i64 st0] 67 (0, 0))) (hr : Row w G 2 80 1 vo n xs) (hf : Row w G 3 3 1 vf l.length (ints l)) (hG : G hb = 1) (hnew : G w.heap.size = 0) (d : Nat) :
    Calls Tryd.prog 51 #[hptr hb, .iface T p] (((w.alloc (.cells #[.int .i64 0, .int .i64 0] 28)).drewN d).setCell ⟨hb, 3, none⟩ (.int .i64 st))
      fun e w' => e = .returned (.int .i64 i) ∧ w'.heap[w.heap.size]? = some (.cells #[.int .i64 0, .int .i64 0] 28 (0, 0)) ∧ PlacedOld w w' hb G lim st n (xs.set i (.iface T p)) (restL l) := by
  have hbl := lt_at hh
  have hh2 : ((((w.alloc (.cells #[.int .i64 0, .int .i64 0] 28)).drewN d).setCell ⟨hb, 3, none⟩ (.int .i64 st))).heap[hb]? = some (.cells #[.int .i64 lim, vo, vf, .int .i64 st] 67 (0, 0)) :=
    setCell_at (w := (w.alloc (.cells #[.int .i64 0, .int .i64 0] 28)).drewN d) ((Below.heap_alloc w _ hb hbl).trans hh) _
  have ho : ∀ k, k < w.heap.size → k ≠ hb → ((((w.alloc (.cells #[.int .i64 0, .int .i64 0] 28)).drewN d).setCell ⟨hb, 3, none⟩ (.int .i64 st))).heap[k]? = w.heap[k]? := fun k hk hne =>
    (setCell_off (w := (w.alloc (.cells #[.int .i64 0, .int .i64 0] 28)).drewN d) _ hne).trans (Below.heap_alloc w _ k hk)
  have hz : ((((w.alloc (.cells #[.int .i64 0, .int .i64 0] 28)).drewN d).setCell ⟨hb, 3, none⟩ (.int .i64 st))).heap.size = w.heap.size + 1 := by simp [World.setCell]
  have hat : ((((w.alloc (.cells #[.int .i64 0, .int .i64 0] 28)).drewN d).setCell ⟨hb, 3, none⟩ (.int .i64 st))).heap[w.heap.size]? = some (.cells #[.int .i64 0, .int .i64 0] 28 (0, 0)) :=
    (setCell_off (w := (w.alloc (.cells #[.int .i64 0, .int .i64 0] 28)).drewN d) _ (by show w.heap.size ≠ hb; omega)).trans (alloc_at w _)
  have hr2 : Row ((((w.alloc (.cells #[.int .i64 0, .int .i64 0] 28)).drewN d).setCell ⟨hb, 3, none⟩ (.int .i64 st))) G 2 80 1 vo n xs := hr.keep (fun k hk e => ho k hk (by intro e2; subst e2; omega)) (fun _ _ e => e)
  have hf2 : Row ((((w.alloc (.cells #[.int .i64 0, .int .i64 0] 28)).drewN d).setCell ⟨hb, 3, none⟩ (.int .i64 st))) G 3 3 1 vf l.length (ints l) := hf.keep (fun k hk e => ho k hk (by intro e2; subst e2; omega)) (fun _ _ e => e)
  have ha : (((w.alloc (.cells #[.int .i64 0, .int .i64 0] 28)).drewN d).setCell ⟨hb, 3, none⟩ (.int .i64 st)).os = w.os ∧ (((w.alloc (.cells #[.int .i64 0, .int .i64 0] 28)).drewN d).setCell ⟨hb, 3, none⟩ (.int .i64 st)).tape = w.tape ∧ (((w.alloc (.cells #[.int .i64 0, .int .i64 0] 28)).drewN d).setCell ⟨hb, 3, none⟩ (.int .i64 st)).output = w.output := ⟨rfl, rfl, rfl⟩
  generalize (((w.alloc (.cells #[.int .i64 0, .int .i64 0] 28)).drewN d).setCell ⟨hb, 3, none⟩ (.int .i64 st)) = W at hh2 ho hz hat hr2 hf2 ha ⊢
  refine (place_old hb n i l lim st vo vf T p xs G W h0 hl hi hin hn hh2 hG hr2 hf2).mono ?_
  rintro e w' ⟨he, w1, hp, g, cap, rfl, rfl⟩
  obtain ⟨p1, p2, p3, p4, p5, g3, cap3, p6, p7, p8⟩ := hp
  have lg : G g = 2 := hr.lab g rfl
  have hgb : hb ≠ g := fun e => by rw [← e] at lg; omega
  have hgs : w.heap.size ≠ g := fun e => by rw [← e] at lg; omega
  have hr3 : w1.ownsRow 0 80 1 (.slice (some ⟨g, 0, none⟩) n cap) n xs := own_same hr2.own (fun k hk => by cases hk; exact p5 g (by omega) (by omega))
  refine ⟨he, ?_, ⟨p1.trans ha.1, p2.trans ha.2.1, p3.trans ha.2.2, by simp [World.setCell]; rw [p4, hz], fun k hk n1 n2 n3 => ?_, _, .slice (some ⟨g3, 0, none⟩) (restL l).length cap3, (setCell_off _ hgb).trans p6, ⟨(World.ownsRow.stored hr3 i (.iface T p)).1, hr.lab⟩, ⟨own_same p8.own (fun k hk => setCell_off _ ?_), p8.lab⟩⟩⟩
  · exact (setCell_off _ hgs).trans ((p5 _ (by omega) (by omega)).trans hat)
  · rw [setCell_off _ (fun e => n2 (by have e2 : k = g := e; rw [e2]; exact lg))]
    exact (p5 k n1 n3).trans (ho k hk (fun e => n1 (by rw [e]; exact hG)))
  · have := p8.lab k hk
    intro e
    have e2 : k = g := e
    rw [e2] at this
    omega
theorem add_old {w : World} {hb : Nat} {G Gx : Nat → Nat} {m : Hp} (h : HeapAt w hb G m) (hf : 0 < m.free.length) {x : Value} {o : Ob} (hx : ObAt w Gx 1 x o) (hd : ∀ k, k < w.heap.size → Gx k = 1 → G k = 0)
    (hs : total m.obs + o.size ≤ 1048576) :
    Calls Tryd.prog 37 #[hptr hb, x] w fun e w' => e = .returned (.tuple #[wv (o.kind, leastL m.free), .int .i64 0]) ∧
      Keeps G w w' ∧ ∃ G', HeapAt w' hb G' (m.addOld o) ∧ ∀ k, k < w.heap.size → (G' k = 0 ↔ G k = 0 ∧ Gx k ≠ 1) := by
  have hM := h.many
  have hR := h.room
  have hst := h.ok.store
  have hfl := h.ok.free_len
  have hok2 := h.ok.addOld hf hs
  have hsz : o.size ≤ 1048576 := by omega
  obtain ⟨i, hi, hn⟩ := h.ok.least hf
  have hil := (List.getElem?_eq_some_iff.1 hn).1
  obtain ⟨ok, new, lab, vo, vf, xs, h1, h2, h3, h4⟩ := h
  have hlim := ok.lim2
  have hlen := ok.len
  have hm : (((m.obs.length : Int) - m.free.length) == (m.lim : Int)) = false := by rw [beq_eq_false_iff_ne]; omega
  have hcP : ∀ T p, ∀ d, Calls Tryd.prog 51 #[hptr hb, .iface T p] (((w.alloc (.cells #[.int .i64 0, .int .i64 0] 28)).drewN d).setCell ⟨hb, 3, none⟩ (.int .i64 ((total m.obs : Int) + o.size))) _ :=
    fun T p d => place_old_in_add (st := (total m.obs : Int) + o.size) T p hf (by omega) hi hil (by omega) h1 h2 h3 lab (new _ (Nat.le_refl _)) d
  have hfin : ∀ w' w3 : World, PlacedOld w w3 hb G m.lim ((total m.obs : Int) + o.size) m.obs.length (xs.set i x) (restL m.free) → w3.heap[w.heap.size]? = some (.cells #[.int .i64 0, .int .i64 0] 28 (0, 0)) →
      w' = (w3.setCell ⟨w.heap.size, 0, none⟩ (.int .i64 o.kind)).setCell ⟨w.heap.size, 1, none⟩ (.int .i64 i) →
      Keeps G w w' ∧ ∃ G', HeapAt w' hb G' (m.addOld o) ∧ ∀ k, k < w.heap.size → (G' k = 0 ↔ G k = 0 ∧ Gx k ≠ 1) := by
    intro w' w3 hp hw3 hw'
    have hz : w'.heap.size = w3.heap.size := by rw [hw']; simp [World.setCell]
    have hof : ∀ k, k ≠ w.heap.size → w'.heap[k]? = w3.heap[k]? := fun k hk => by rw [hw', setCell_off _ hk, setCell_off _ hk]
    have hos : w'.os = w3.os ∧ w'.tape = w3.tape ∧ w'.output = w3.output := by rw [hw']; exact ⟨rfl, rfl, rfl⟩
    clear hw'
    obtain ⟨p1, p2, p3, p4, p5, vo', vf', p6, p7, p8⟩ := hp
    have hold : ∀ k, k < w.heap.size → G k ≠ 1 → G k ≠ 2 → G k ≠ 3 → w'.heap[k]? = w.heap[k]? := fun k hk n1 n2 n3 => (hof k (by omega)).trans (p5 k hk n1 n2 n3)
    have hnw := new _ (Nat.le_refl _)
    have hlow : ∀ k L, G k = L → L ≠ 0 → k < w.heap.size := fun k L e hL => by
      apply Classical.byContradiction
      intro hnk
      have := new k (by omega)
      omega
    have hgx : ∀ k L, G k = L → L ≠ 0 → (if k < w.heap.size then (if Gx k = 1 then 4 + i else G k) else 0) = L := fun k L e hL => by
      have hk := hlow k L e hL
      rw [if_pos hk, if_neg (fun e2 => by have := hd k hk e2; omega)]
      exact e
    refine ⟨⟨hos.1.trans p1, hos.2.1.trans p2, hos.2.2.trans p3, by omega, fun k hk hz => hold k hk (by omega) (by omega) (by omega)⟩,
      fun k => if k < w.heap.size then (if Gx k = 1 then 4 + i else G k) else 0, ⟨hok2, fun k hk => if_neg (by omega), hgx hb 1 lab (by decide), vo', vf', xs.set i x, ?_, ?_, ?_, fun j o' ho => ?_⟩, fun k hk => ?_⟩
    · rw [hof hb (by have := lt_at h1; omega), p6]
      simp only [Hp.addOld, hi, Int.toNat_natCast, total_some _ _ _ hn]
      simp
    · have e : (m.addOld o).obs.length = m.obs.length := by simp [Hp.addOld]
      rw [e]
      refine ⟨own_same p7.own (fun k hk => hof k (fun e2 => by have := p7.lab k hk; rw [e2] at this; omega)), fun k hk => hgx k 2 (p7.lab k hk) (by decide)⟩
    · refine ⟨own_same p8.own (fun k hk => hof k (fun e2 => by have := p8.lab k hk; rw [e2] at this; omega)), fun k hk => hgx k 3 (p8.lab k hk) (by decide)⟩
    · have hxl : xs.length = m.obs.length := by simpa using h2.length
      simp only [Hp.addOld, hi, Int.toNat_natCast] at ho
      by_cases hij : i = j
      · subst hij
        rw [List.getElem?_set_self hil] at ho
        cases ho
        refine ⟨x, by rw [List.getElem?_set_self (by omega)], ?_⟩
        show ObAt w' _ (4 + i) x o
        refine hx.move (by decide) (fun k hk e => hold k hk (by have := hd k hk e; omega) (by have := hd k hk e; omega) (by have := hd k hk e; omega)) (fun k hk e => ?_)
        show (if k < w.heap.size then (if Gx k = 1 then 4 + i else G k) else 0) = 4 + i
        rw [if_pos hk, if_pos e]
      · rw [List.getElem?_set_ne hij] at ho
        obtain ⟨v, hv1, hv2⟩ := h4 j o' ho
        exact ⟨v, by rw [List.getElem?_set_ne hij]; exact hv1, hv2.keep (by omega) (fun k hk e => hold k hk (by omega) (by omega) (by omega)) (fun k hk e => hgx k _ e (by omega))⟩
    · show (if k < w.heap.size then (if Gx k = 1 then 4 + i else G k) else 0) = 0 ↔ _
      rw [if_pos hk]
      by_cases e : Gx k = 1
      · rw [if_pos e]; exact ⟨fun h => by omega, fun h => absurd e h.2⟩
      · rw [if_neg e]; exact ⟨fun h => ⟨h, e⟩, fun h => h.1⟩
  have f3 : w.frozen? ⟨hb, 3, none⟩ = false := frozen_at h1
  have hx2 := hx
  rw [hi]
  obtain ⟨b, _, hbs, h5 | h5 | h5 | h5⟩ := hx.size_le hsz <;> obtain ⟨rfl, h6⟩ := h5
  · refine (add_walk_pair hb b m.lim _ (total m.obs) o.size _ o.kind i w _ (lt_at h1) (cell_at h1) (cell_at h1) f3 hm (by omega) (by omega) (by omega) (by omega) hM h6 hR (kind_v hx2) (hcP _ _)).mono ?_
    rintro e w' ⟨he, w3, hp, hw3, hw'⟩
    exact ⟨he, hfin w' w3 hp hw3 hw'⟩
  · refine (add_walk_text hb b m.lim _ (total m.obs) o.size _ o.kind i w _ (lt_at h1) (cell_at h1) (cell_at h1) f3 hm (by omega) (by omega) (by omega) (by omega) hM h6 hR (kind_v hx2) (hcP _ _)).mono ?_
    rintro e w' ⟨he, w3, hp, hw3, hw'⟩
    exact ⟨he, hfin w' w3 hp hw3 hw'⟩
  · refine (add_walk_vec hb b m.lim _ (total m.obs) o.size _ o.kind i w _ (lt_at h1) (cell_at h1) (cell_at h1) f3 hm (by omega) (by omega) (by omega) (by omega) hM h6 hR (kind_v hx2) (hcP _ _)).mono ?_
    rintro e w' ⟨he, w3, hp, hw3, hw'⟩
    exact ⟨he, hfin w' w3 hp hw3 hw'⟩
  · refine (add_walk_code hb b m.lim _ (total m.obs) o.size _ o.kind i w _ (lt_at h1) (cell_at h1) (cell_at h1) f3 hm (by omega) (by omega) (by omega) (by omega) hM h6 hR (kind_v hx2) (hcP _ _)).mono ?_
    rintro e w' ⟨he, w3, hp, hw3, hw'⟩
    exact ⟨he, hfin w' w3 hp hw3 hw'⟩
theorem adds_old {hb : Nat} {G : Nat → Nat} {m : Hp} {o : Ob} (hf : 0 < m.free.length) (hs : total m.obs + o.size ≤ 1048576) : AddsTo hb G m (m.addOld o) o (o.kind, leastL m.free) 0 := by
  intro W Gx x h hx hd
  refine (add_old h hf hx hd hs).mono ?_
  rintro e w' ⟨he, hk, G', h2, h3⟩
  exact ⟨he, hk, G', h2, fun k hk => ⟨(h3 k hk).2, fun hz e => hz ((h3 k hk).1 e).1⟩⟩
end Go.Proofs.YtleppjdmcjocmaaDoor
