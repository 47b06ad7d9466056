/- The contracts of Car, Cdr, SetCar, SetCdr, TextOf and VecOf on a heap that stands. -/
import Derived.Test.YtleppjdmcjocmaaDoorHpSet
namespace Go.Proofs.YtleppjdmcjocmaaDoor
open Go.RowKit Go.Lib
abbrev NotA (v : Value) (T : TypeId) : Prop := ∀ W, (Instr.typeAssert v 80 T true).run Tryd.prog W = .ok (.tuple #[.pointer none, .bool false]) W
theorem ObAt.not_pair {w : World} {G : Nat → Nat} {L : Nat} {v : Value} {o : Ob} (h : ObAt w G L v o) (hn : o.kind ≠ 2) : NotA v 69 := by
  cases o with
  | pair a d => exact absurd rfl hn
  | text s n => obtain ⟨b, rfl, _⟩ := h; exact as_text_pair _
  | vec l => obtain ⟨b, sv, rfl, _⟩ := h; exact as_vector_pair _
  | code le mo de bs cs => obtain ⟨b, sv, cv, rfl, _⟩ := h; exact as_code_pair _
theorem ObAt.not_text {w : World} {G : Nat → Nat} {L : Nat} {v : Value} {o : Ob} (h : ObAt w G L v o) (hn : o.kind ≠ 3) : NotA v 74 := by
  cases o with
  | pair a d => obtain ⟨b, rfl, _⟩ := h; exact as_pair_text _
  | text s n => exact absurd rfl hn
  | vec l => obtain ⟨b, sv, rfl, _⟩ := h; exact as_vector_text _
  | code le mo de bs cs => obtain ⟨b, sv, cv, rfl, _⟩ := h; exact as_code_text _
theorem ObAt.not_vec {w : World} {G : Nat → Nat} {L : Nat} {v : Value} {o : Ob} (h : ObAt w G L v o) (hn : o.kind ≠ 4) : NotA v 82 := by
  cases o with
  | pair a d => obtain ⟨b, rfl, _⟩ := h; exact as_pair_vector _
  | text s n => obtain ⟨b, rfl, _⟩ := h; exact as_text_vector _
  | vec l => exact absurd rfl hn
  | code le mo de bs cs => obtain ⟨b, sv, cv, rfl, _⟩ := h; exact as_code_vector _
theorem ObAt.not_code {w : World} {G : Nat → Nat} {L : Nat} {v : Value} {o : Ob} (h : ObAt w G L v o) (hn : o.kind ≠ 6) : NotA v 94 := by
  cases o with
  | pair a d => obtain ⟨b, rfl, _⟩ := h; exact as_pair_code _
  | text s n => obtain ⟨b, rfl, _⟩ := h; exact as_text_code _
  | vec l => obtain ⟨b, sv, rfl, _⟩ := h; exact as_vector_code _
  | code le mo de bs cs => exact absurd rfl hn
def Hp.car (m : Hp) (x : Wd) : Wd × Int := if x = (1, 0) then (x, 0) else match m.find x with
  | some (.pair a _) => (a, 0)
  | _ => ((0, 0), 6)
def Hp.cdr (m : Hp) (x : Wd) : Wd × Int := if x = (1, 0) then (x, 0) else match m.find x with
  | some (.pair _ d) => (d, 0)
  | _ => ((0, 0), 6)
theorem car_any {w : World} {hb : Nat} {G : Nat → Nat} {m : Hp} (h : HeapAt w hb G m) (x : Wd) :
    Calls Tryd.prog 18 #[hptr hb, wv x] w fun e w' => e = .returned (.tuple #[wv (m.car x).1, .int .i64 (m.car x).2]) ∧ Below w.heap.size w w' := by
  unfold Hp.car
  by_cases hx : x = (1, 0)
  · rw [if_pos hx]; exact car_nil hb x w h.valid hx
  · rw [if_neg hx]
    cases hf : m.find x with
    | none => exact car_not hb x _ w h.valid hx (h.find_none hf) as_nil_pair
    | some o =>
      obtain ⟨v, _, hv, cF, _⟩ := h.find_some hf
      by_cases hk : o.kind = 2
      · cases o with
        | pair a d => obtain ⟨b, rfl, hG, hh⟩ := hv; exact car_yes hb b x a w h.valid hx cF (lt_at hh) (cell_at hh) (cell_at hh)
        | text s n => cases hk
        | vec l => cases hk
        | code le mo de bs cs => cases hk
      · have := car_not hb x _ w h.valid hx cF (hv.not_pair hk)
        cases o with
        | pair a d => exact absurd rfl hk
        | text s n => exact this
        | vec l => exact this
        | code le mo de bs cs => exact this
theorem cdr_any {w : World} {hb : Nat} {G : Nat → Nat} {m : Hp} (h : HeapAt w hb G m) (x : Wd) :
    Calls Tryd.prog 28 #[hptr hb, wv x] w fun e w' => e = .returned (.tuple #[wv (m.cdr x).1, .int .i64 (m.cdr x).2]) ∧ Below w.heap.size w w' := by
  unfold Hp.cdr
  by_cases hx : x = (1, 0)
  · rw [if_pos hx]; exact cdr_nil hb x w h.valid hx
  · rw [if_neg hx]
    cases hf : m.find x with
    | none => exact cdr_not hb x _ w h.valid hx (h.find_none hf) as_nil_pair
    | some o =>
      obtain ⟨v, _, hv, cF, _⟩ := h.find_some hf
      by_cases hk : o.kind = 2
      · cases o with
        | pair a d => obtain ⟨b, rfl, hG, hh⟩ := hv; exact cdr_yes hb b x d w h.valid hx cF (lt_at hh) (cell_at hh) (cell_at hh)
        | text s n => cases hk
        | vec l => cases hk
        | code le mo de bs cs => cases hk
      · have := cdr_not hb x _ w h.valid hx cF (hv.not_pair hk)
        cases o with
        | pair a d => exact absurd rfl hk
        | text s n => exact this
        | vec l => exact this
        | code le mo de bs cs => exact this
/-- An object in the place of another one. -/
def Hp.set (m : Hp) (i : Nat) (o : Ob) : Hp := { m with obs := m.obs.set i (some o) }
theorem total_set {l : List (Option Ob)} {i : Nat} {o o' : Option Ob} (h : l[i]? = some o) (hs : osize o' = osize o) : total (l.set i o') = total l := by
  unfold total
  rw [List.map_set, hs]
  congr 1
  refine List.ext_getElem? fun j => ?_
  by_cases e : i = j
  · subst e
    have hi := (List.getElem?_eq_some_iff.1 h).1
    rw [List.getElem?_set_self (by simpa using hi)]
    simp [h]
  · rw [List.getElem?_set_ne e]
theorem Hp.Ok.set {m : Hp} {i : Nat} {o o' : Ob} (h : m.Ok) (ho : m.obs[i]? = some (some o)) (hs : o'.size = o.size) : (m.set i o').Ok := by
  refine ⟨h.lim1, h.lim2, by simpa [Hp.set] using h.len, by simp only [Hp.set]; rw [total_set ho (by simpa [osize] using hs)]; exact h.store, fun j => ?_, h.once⟩
  have h1 := h.free j
  simp only [Hp.set]
  rw [h1]
  constructor
  · rintro ⟨n, e, h2⟩
    refine ⟨n, e, ?_⟩
    rw [List.getElem?_set_ne (by intro e2; subst e2; rw [ho] at h2; cases h2)]
    exact h2
  · rintro ⟨n, e, h2⟩
    refine ⟨n, e, ?_⟩
    by_cases e2 : i = n
    · subst e2
      rw [List.getElem?_set_self (List.getElem?_eq_some_iff.1 ho).1] at h2
      cases h2
    · rwa [List.getElem?_set_ne e2] at h2
/-- What an object holds has turned, and nothing else of the heap. -/
theorem HeapAt.upd {w w' : World} {hb : Nat} {G : Nat → Nat} {m : Hp} (h : HeapAt w hb G m) {i : Nat} {o o' : Ob} (ho : m.obs[i]? = some (some o)) (hs : o'.size = o.size) (hz : w.heap.size ≤ w'.heap.size)
    (hb' : ∀ k, k < w.heap.size → G k ≠ 0 → G k ≠ 4 + i → w'.heap[k]? = w.heap[k]?) (hv : ∀ v, CellIs w hb i v → ObAt w G (4 + i) v o → ObAt w' G (4 + i) v o') : HeapAt w' hb G (m.set i o') := by
  have hok := h.ok.set ho hs
  obtain ⟨ok, new, lab, vo, vf, xs, h1, h2, h3, h4⟩ := h
  have ht : total (m.set i o').obs = total m.obs := total_set ho (by simpa [osize] using hs)
  have hl : (m.set i o').obs.length = m.obs.length := by simp [Hp.set]
  refine ⟨hok, fun k hk => new k (by omega), lab, vo, vf, xs, ?_, ?_, h3.keep (fun k hk e => hb' k hk (by omega) (by omega)) (fun _ _ e => e), fun j oj hj => ?_⟩
  · rw [ht]; exact (hb' hb (lt_at h1) (by omega) (by omega)).trans h1
  · rw [hl]; exact h2.keep (fun k hk e => hb' k hk (by omega) (by omega)) (fun _ _ e => e)
  · by_cases e : i = j
    · subst e
      simp only [Hp.set] at hj
      rw [List.getElem?_set_self (List.getElem?_eq_some_iff.1 ho).1] at hj
      have hj := Option.some.inj hj
      subst hj
      obtain ⟨v, e1, e2⟩ := h4 i _ ho
      have hi := (List.getElem?_eq_some_iff.1 ho).1
      obtain ⟨g, cap, cur, hvo, _⟩ := h2.at (by omega)
      subst hvo
      exact ⟨v, e1, hv v ⟨_, g, _, _, _, _, h1, h2.cell e1⟩ e2⟩
    · simp only [Hp.set] at hj
      rw [List.getElem?_set_ne e] at hj
      obtain ⟨v, e1, e2⟩ := h4 j _ hj
      exact ⟨v, e1, e2.keep (by omega) (fun k hk e => hb' k hk (by omega) (by omega)) (fun _ _ e => e)⟩
theorem setcar_no {w : World} {hb : Nat} {G : Nat → Nat} {m : Hp} (h : HeapAt w hb G m) (x y : Wd) (hf : ∀ a d, m.find x ≠ some (.pair a d)) :
    Calls Tryd.prog 23 #[hptr hb, wv x, wv y] w fun e w' => e = .returned (.int .i64 6) ∧ Below w.heap.size w w' := by
  cases hf2 : m.find x with
  | none => exact setcar_not hb x y _ w h.valid (h.find_none hf2) as_nil_pair
  | some o =>
    obtain ⟨v, _, hv, cF, _⟩ := h.find_some hf2
    exact setcar_not hb x y _ w h.valid cF (hv.not_pair (by
      intro hk
      cases o with
      | pair a d => exact hf a d hf2
      | text s n => cases hk
      | vec l => cases hk
      | code le mo de bs cs => cases hk))
theorem setcdr_no {w : World} {hb : Nat} {G : Nat → Nat} {m : Hp} (h : HeapAt w hb G m) (x y : Wd) (hf : ∀ a d, m.find x ≠ some (.pair a d)) :
    Calls Tryd.prog 26 #[hptr hb, wv x, wv y] w fun e w' => e = .returned (.int .i64 6) ∧ Below w.heap.size w w' := by
  cases hf2 : m.find x with
  | none => exact setcdr_not hb x y _ w h.valid (h.find_none hf2) as_nil_pair
  | some o =>
    obtain ⟨v, _, hv, cF, _⟩ := h.find_some hf2
    exact setcdr_not hb x y _ w h.valid cF (hv.not_pair (by
      intro hk
      cases o with
      | pair a d => exact hf a d hf2
      | text s n => cases hk
      | vec l => cases hk
      | code le mo de bs cs => cases hk))
/-- Two cells of one block written behind a call that leaves old blocks alone. -/
theorem went_upd {w W w' : World} {hb b i : Nat} {G : Nat → Nat} {m : Hp} {o o' : Ob} {p q : Addr} {u v : Value} (h : HeapAt w hb G m) (ho : m.obs[i]? = some (some o)) (hs : o'.size = o.size) (hW : Below w.heap.size w W) (hG : G b = 4 + i)
    (hp : p.block = b) (hq : q.block = b) (hw : w' = (W.setCell p u).setCell q v) (hv : ∀ v, CellIs W hb i v → ObAt W G (4 + i) v o → ObAt w' G (4 + i) v o') : Went w w' hb G (m.set i o') := by
  have hof : ∀ k, k ≠ b → w'.heap[k]? = W.heap[k]? := fun k hk => by rw [hw, setCell_off _ (by omega), setCell_off _ (by omega)]
  have hz : w'.heap.size = W.heap.size := by rw [hw]; simp [World.setCell]
  have hos : w'.os = W.os ∧ w'.tape = W.tape ∧ w'.output = W.output := by rw [hw]; exact ⟨rfl, rfl, rfl⟩
  have hs1 := hW.size
  refine ⟨⟨hos.1.trans hW.os, hos.2.1.trans hW.tape, hos.2.2.trans hW.output, by omega, fun k hk hz => ?_⟩, G, (h.below hW).upd ho hs (by omega) (fun k hk hz hne => hof k (by intro e; subst e; exact hne hG)) hv, fun k hk => Iff.rfl⟩
  rw [hof k (by intro e; subst e; omega)]
  exact hW.block k hk
theorem setcar_ok {w : World} {hb : Nat} {G : Nat → Nat} {m : Hp} (h : HeapAt w hb G m) (x y a d : Wd) (hf : m.find x = some (.pair a d)) :
    Calls Tryd.prog 23 #[hptr hb, wv x, wv y] w fun e w' => e = .returned (.int .i64 0) ∧ Went w w' hb G (m.set x.2.toNat (.pair y d)) := by
  obtain ⟨v, hob, ⟨b, rfl, hG, hh⟩, cF, hci⟩ := h.find_some hf
  refine (setcar_yes hb b x y a.1 a.2 w h.valid cF (lt_at hh) (cell_at hh) (cell_at hh) (frozen_at hh) (frozen_at hh)).mono ?_
  rintro e w' ⟨he, W, hW, hw⟩
  refine ⟨he, went_upd h hob rfl hW hG rfl rfl hw ?_⟩
  rintro v hc2 _
  cases hc2.same (hci.below hW)
  have hh2 := (hW.block b (lt_at hh)).trans hh
  refine ⟨b, rfl, hG, ?_⟩
  rw [hw]
  exact setCell_at (i := 1) (setCell_at (i := 0) hh2 (.int .i64 y.1)) (.int .i64 y.2)
theorem setcdr_ok {w : World} {hb : Nat} {G : Nat → Nat} {m : Hp} (h : HeapAt w hb G m) (x y a d : Wd) (hf : m.find x = some (.pair a d)) :
    Calls Tryd.prog 26 #[hptr hb, wv x, wv y] w fun e w' => e = .returned (.int .i64 0) ∧ Went w w' hb G (m.set x.2.toNat (.pair a y)) := by
  obtain ⟨v, hob, ⟨b, rfl, hG, hh⟩, cF, hci⟩ := h.find_some hf
  refine (setcdr_yes hb b x y d.1 d.2 w h.valid cF (lt_at hh) (cell_at hh) (cell_at hh) (frozen_at hh) (frozen_at hh)).mono ?_
  rintro e w' ⟨he, W, hW, hw⟩
  refine ⟨he, went_upd h hob rfl hW hG rfl rfl hw ?_⟩
  rintro v hc2 _
  cases hc2.same (hci.below hW)
  have hh2 := (hW.block b (lt_at hh)).trans hh
  refine ⟨b, rfl, hG, ?_⟩
  rw [hw]
  exact setCell_at (i := 3) (setCell_at (i := 2) hh2 (.int .i64 y.1)) (.int .i64 y.2)
end Go.Proofs.YtleppjdmcjocmaaDoor
