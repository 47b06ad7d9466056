/- The contract of find: the object that a word refers to, if there is one. -/
import Derived.Test.YtleppjdmcjocmaaDoorHpLeaf
namespace Go.Proofs.YtleppjdmcjocmaaDoor
open Go.RowKit Go.Lib
abbrev wv (x : Wd) : Value := .agg #[.int .i64 x.1, .int .i64 x.2]
/-- A row that is not empty lies in a block. -/
theorem Row.at {w : World} {G : Nat → Nat} {L : Nat} {e : TypeId} {size : Nat} {v : Value} {n : Nat} {xs : List Value} (h : Row w G L e size v n xs) (hn : 0 < n) :
    ∃ g cap cur, v = .slice (some ⟨g, 0, none⟩) n cap ∧ G g = L ∧ w.heap[g]? = some (.cells cur e (0, 0)) ∧ n ≤ cap ∧ cap ≤ maxLen ∧ cur.size = cap * size ∧ cur.toList.take (n * size) = xs := by
  obtain ⟨⟨h1, h2⟩, h3⟩ := h
  rcases h2 with h2 | ⟨g, cap, cur, hv, _, hh, hr⟩
  · omega
  · exact ⟨g, cap, cur, hv, h3 g (by rw [hv]; rfl), hh, hr⟩
theorem Row.slice {w : World} {G : Nat → Nat} {L : Nat} {e : TypeId} {size : Nat} {v : Value} {n : Nat} {xs : List Value} (h : Row w G L e size v n xs) : ∃ a cap, v = .slice a n cap := by
  obtain ⟨⟨h1, h2⟩, h3⟩ := h
  rcases h2 with ⟨rfl, rfl⟩ | ⟨g, cap, cur, hv, _⟩
  · exact ⟨none, 0, rfl⟩
  · exact ⟨_, cap, hv⟩
theorem Row.length {w : World} {G : Nat → Nat} {L : Nat} {e : TypeId} {size : Nat} {v : Value} {n : Nat} {xs : List Value} (h : Row w G L e size v n xs) : xs.length = n * size := h.own.1
/-- The cells of a row. -/
theorem Row.cell {w : World} {G : Nat → Nat} {L : Nat} {e : TypeId} {size : Nat} {n g cap : Nat} {xs : List Value} (h : Row w G L e size (.slice (some ⟨g, 0, none⟩) n cap) n xs) {i : Nat} {u : Value} (hx : xs[i]? = some u) : w.cell? ⟨g, i, none⟩ = some u := by
  obtain ⟨⟨h1, h2⟩, h3⟩ := h
  rcases h2 with ⟨h2, _⟩ | ⟨g', cap', cur, hv, _, hh, _, _, _, ht⟩
  · cases h2
  · cases hv
    rw [cell_at hh]
    rw [← ht] at hx
    have hi := (List.getElem?_eq_some_iff.1 hx).1
    simp only [List.length_take] at hi
    rw [List.getElem?_take_of_lt (by omega)] at hx
    simpa using hx
theorem _root_.Go.RowKit.Below.drewN {B : Nat} {a w : World} (h : Below B a w) (n : Nat) : Below B a (w.drewN n) := ⟨h.os, h.tape, h.output, h.size, h.block⟩
set_option maxHeartbeats 400000 in
theorem find_low (hb : Nat) (x : Wd) (w : World) (h : x.2 < 0) : Calls Tryd.prog 46 #[hptr hb, wv x] w fun e w' => e = .returned .nilIface ∧ Below w.heap.size w w' := by
  go_enter Tryd.func46, Tryd.ntmps46
  go_wp2
  go_quiet (fail)
  go_wp2
  go_ret
  exact ⟨rfl, ((Below.refl _ _).alloc (Nat.le_refl _) _).drewN _⟩
set_option maxHeartbeats 400000 in
theorem find_high (hb : Nat) (x : Wd) (n c : Nat) (a : Option Addr) (w : World) (hbl : hb < w.heap.size) (c1 : w.cell? ⟨hb, 1, none⟩ = some (.slice a n c)) (h0 : 0 ≤ x.2) (h : (n : Int) ≤ x.2) :
    Calls Tryd.prog 46 #[hptr hb, wv x] w fun e w' => e = .returned .nilIface ∧ Below w.heap.size w w' := by
  have hd : decide (x.2 < 0) = false := by simpa using h0
  clear h0
  go_enter Tryd.func46, Tryd.ntmps46
  go_wp2
  go_quiet (fail)
  go_wp2
  go_ret
  exact ⟨rfl, ((Below.refl _ _).alloc (Nat.le_refl _) _).drewN _⟩
set_option maxHeartbeats 400000 in
theorem find_free (hb : Nat) (k : Int) (i n c g : Nat) (w : World) (hbl : hb < w.heap.size) (c1 : w.cell? ⟨hb, 1, none⟩ = some (.slice (some ⟨g, 0, none⟩) n c)) (hi : i < n)
    (hg : g < w.heap.size) (cg : w.cell? ⟨g, i, none⟩ = some .nilIface) :
    Calls Tryd.prog 46 #[hptr hb, wv (k, i)] w fun e w' => e = .returned .nilIface ∧ Below w.heap.size w w' := by
  have hd : decide ((i : Int) < 0) = false := by simp
  have hd2 : decide ((n : Int) ≤ (i : Int)) = false := by simpa using hi
  go_enter Tryd.func46, Tryd.ntmps46
  go_wp2
  go_quiet (fail)
  go_wp2
  go_quiet (fail)
  go_wp2
  go_quiet (fail)
  go_wp2
  go_ret
  exact ⟨rfl, ((((Below.refl _ _).alloc (Nat.le_refl _) _).drewN _).drewN _).drewN _⟩
set_option maxHeartbeats 400000 in
theorem find_at (hb : Nat) (k : Int) (i n c g : Nat) (T : TypeId) (p : Value) (kd : Int) (w : World) (hbl : hb < w.heap.size) (c1 : w.cell? ⟨hb, 1, none⟩ = some (.slice (some ⟨g, 0, none⟩) n c)) (hi : i < n)
    (hg : g < w.heap.size) (cg : w.cell? ⟨g, i, none⟩ = some (.iface T p))
    (cK : ∀ W, Calls Tryd.prog 50 #[.iface T p] W fun e w' => e = .returned (.int .i64 kd) ∧ w' = W) (b : Bool) (hk : (kd != k) = b) :
    Calls Tryd.prog 46 #[hptr hb, wv (k, i)] w fun e w' => e = .returned (if b then .nilIface else .iface T p) ∧ Below w.heap.size w w' := by
  have hd : decide ((i : Int) < 0) = false := by simp
  have hd2 : decide ((n : Int) ≤ (i : Int)) = false := by simpa using hi
  have CK := Lib.hid cK
  clear cK
  cases b
  · have hk' : (kd == k) = true := by simpa using hk
    go_enter Tryd.func46, Tryd.ntmps46
    go_wp2
    go_quiet (fail)
    go_wp2
    go_quiet (fail)
    go_wp2
    go_quiet ((go_at_call 50; exact q_more_same (CK.out _)))
    go_wp2
    go_ret
    exact ⟨rfl, ((Below.refl _ _).alloc (Nat.le_refl _) _).drewN _⟩
  · have hk' : (kd == k) = false := by simpa using hk
    go_enter Tryd.func46, Tryd.ntmps46
    go_wp2
    go_quiet (fail)
    go_wp2
    go_quiet (fail)
    go_wp2
    go_quiet ((go_at_call 50; exact q_more_same (CK.out _)))
    go_wp2
    go_ret
    exact ⟨rfl, ((Below.refl _ _).alloc (Nat.le_refl _) _).drewN _⟩
theorem ObAt.iface {w : World} {G : Nat → Nat} {L : Nat} {v : Value} {o : Ob} (h : ObAt w G L v o) : ∃ T b, v = .iface T (.pointer (some ⟨b, 0, none⟩)) ∧ G b = L := by
  cases o with
  | pair a d => obtain ⟨b, h1, h2, _⟩ := h; exact ⟨_, b, h1, h2⟩
  | text s n => obtain ⟨b, h1, h2, _⟩ := h; exact ⟨_, b, h1, h2⟩
  | vec l => obtain ⟨b, sv, h1, h2, _⟩ := h; exact ⟨_, b, h1, h2⟩
  | code le mo de bs cs => obtain ⟨b, sv, cv, h1, h2, _⟩ := h; exact ⟨_, b, h1, h2⟩
/-- kindOf looks at the interface value alone. -/
theorem kind_v {w : World} {G : Nat → Nat} {L : Nat} {v : Value} {o : Ob} (h : ObAt w G L v o) (W : World) : Calls Tryd.prog 50 #[v] W fun e w' => e = .returned (.int .i64 o.kind) ∧ w' = W := by
  cases o with
  | pair a d => obtain ⟨b, rfl, _⟩ := h; exact kind_pair b W
  | text s n => obtain ⟨b, rfl, _⟩ := h; exact kind_text b W
  | vec l => obtain ⟨b, sv, rfl, _⟩ := h; exact kind_vec b W
  | code le mo de bs cs => obtain ⟨b, sv, cv, rfl, _⟩ := h; exact kind_code b W
theorem find_none {w : World} {hb : Nat} {G : Nat → Nat} {m : Hp} (h : HeapAt w hb G m) (x : Wd) (hx : m.find x = none) :
    Calls Tryd.prog 46 #[hptr hb, wv x] w fun e w' => e = .returned .nilIface ∧ Below w.heap.size w w' := by
  have hlt := h.lt
  obtain ⟨ok, new, lab, vo, vf, xs, h1, h2, h3, h4⟩ := h
  by_cases h0 : x.2 < 0
  · exact find_low hb x w h0
  · obtain ⟨a, c, rfl⟩ := h2.slice
    have c1 : w.cell? ⟨hb, 1, none⟩ = some (.slice a m.obs.length c) := cell_at h1
    by_cases hn : (m.obs.length : Int) ≤ x.2
    · exact find_high hb x _ c a w hlt c1 (by omega) hn
    · obtain ⟨k, i⟩ := x
      obtain ⟨i, rfl⟩ := Int.eq_ofNat_of_zero_le (a := i) (by simpa using h0)
      have hi : i < m.obs.length := by simpa using hn
      obtain ⟨g, cap, cur, hv, hg, hh, _⟩ := h2.at (by omega)
      cases hv
      obtain ⟨o, ho⟩ : ∃ o, m.obs[i]? = some o := ⟨_, List.getElem?_eq_getElem hi⟩
      obtain ⟨v, hv1, hv2⟩ := h4 i o ho
      have cg := h2.cell hv1
      cases o with
      | none => rw [show v = .nilIface from hv2] at cg; exact find_free hb k i _ c g w hlt c1 hi (lt_at hh) cg
      | some o =>
        have hk : o.kind ≠ k := by
          intro e
          simp [Hp.find, ho, e] at hx
        have hv2 : ObAt w G (4 + i) v o := hv2
        obtain ⟨T, b, rfl, _⟩ := hv2.iface
        exact find_at hb k i _ c g T _ o.kind w hlt c1 hi (lt_at hh) cg (kind_v hv2) true (by simpa using hk)
theorem find_some {w : World} {hb : Nat} {G : Nat → Nat} {m : Hp} (h : HeapAt w hb G m) (x : Wd) (o : Ob) (hx : m.find x = some o) :
    ∃ v, m.obs[x.2.toNat]? = some (some o) ∧ ObAt w G (4 + x.2.toNat) v o ∧ Calls Tryd.prog 46 #[hptr hb, wv x] w fun e w' => e = .returned v ∧ Below w.heap.size w w' := by
  have hlt := h.lt
  obtain ⟨ok, new, lab, vo, vf, xs, h1, h2, h3, h4⟩ := h
  obtain ⟨k, i⟩ := x
  unfold Hp.find at hx
  by_cases h0 : 0 ≤ i
  · rw [if_pos h0] at hx
    obtain ⟨i, rfl⟩ := Int.eq_ofNat_of_zero_le h0
    simp only [Int.toNat_natCast] at hx ⊢
    cases ho : m.obs[i]? with
    | none => rw [ho] at hx; cases hx
    | some o' =>
      cases o' with
      | none => rw [ho] at hx; cases hx
      | some o' =>
        rw [ho] at hx
        simp only at hx
        by_cases hk : o'.kind = k
        · rw [if_pos hk] at hx
          have ho2 := Option.some.inj hx
          subst ho2
          have hi : i < m.obs.length := (List.getElem?_eq_some_iff.1 ho).1
          obtain ⟨a, c, rfl⟩ := h2.slice
          have c1 : w.cell? ⟨hb, 1, none⟩ = some (.slice a m.obs.length c) := cell_at h1
          obtain ⟨g, cap, cur, hv, hg, hh, _⟩ := h2.at (by omega)
          cases hv
          obtain ⟨v, hv1, hv2⟩ := h4 i _ ho
          have cg := h2.cell hv1
          have hv2 : ObAt w G (4 + i) v o' := hv2
          obtain ⟨T, b, rfl, _⟩ := hv2.iface
          exact ⟨_, rfl, hv2, find_at hb k i _ c g T _ o'.kind w hlt c1 hi (lt_at hh) cg (kind_v hv2) false (by simpa using hk)⟩
        · rw [if_neg hk] at hx; cases hx
  · rw [if_neg h0] at hx; cases hx
end Go.Proofs.YtleppjdmcjocmaaDoor
