/- The contracts of Name and Interned at a symbol that exists. -/
import Derived.Test.YtponbhhkccpbfaaDoorNmLives
namespace Go.Proofs.YtponbhhkccpbfaaDoor
open Go.RowKit Go.Lib Go.Shelf
/-- Where a symbol lies. -/
theorem TableAt.sym {w : World} {tb : Nat} {G : Nat → Nat} {m : Tb} (h : TableAt w tb G m) {i : Nat} {y : Sy} (hy : m.syms[i]? = some y) :
    ∃ g c, w.cell? ⟨tb, 0, none⟩ = some (.slice (some ⟨g, 0, none⟩) m.syms.length c) ∧ i < m.syms.length ∧ w.cell? ⟨g, i * 6 + 4, none⟩ = some (.string y.name) ∧ w.cell? ⟨g, i * 6 + 5, none⟩ = some (.bool y.intd) := by
  obtain ⟨vs, mb, rs, h1, h2, h3, _⟩ := h.lies
  have hl : rs.length = m.syms.length := by rw [← h2]; simp
  have hi := (List.getElem?_eq_some_iff.1 hy).1
  obtain ⟨g, c, cur, rfl, _⟩ := h3.at (by omega)
  obtain ⟨v, hv⟩ : ∃ v, rs[i]? = some (y, v) := by
    rw [← h2, List.getElem?_map] at hy
    cases hr : rs[i]? with
    | none => rw [hr] at hy; cases hy
    | some p =>
      rw [hr] at hy
      simp at hy
      exact ⟨p.2, by rw [← hy]⟩
  refine ⟨g, c, by rw [cell_at h1, ← hl]; rfl, hi, h3.cell (i := i * 6 + 4) ?_, h3.cell (i := i * 6 + 5) ?_⟩
  · rw [tcells_at rs i _ hv 4 (by decide)]; rfl
  · rw [tcells_at rs i _ hv 5 (by decide)]; rfl
set_option maxHeartbeats 1000000 in
theorem name_ok {w : World} {tb : Nat} {G : Nat → Nat} {m : Tb} (h : TableAt w tb G m) {i : Nat} {y : Sy} (hy : m.syms[i]? = some y) :
    Calls Tryd.prog 12 #[hptr tb, .int .i64 i] w fun e w' => e = .returned (.tuple #[.string y.name, .bool true]) ∧ w' = w := by
  obtain ⟨g, c, c0, hi, c4, c5⟩ := h.sym hy
  have cV := h.valid (by omega)
  have cA := at_yes tb m.syms.length c g i w hi c0
  clear h hy hi c5
  generalize m.syms.length = n at *
  go_enter Tryd.func12, Tryd.ntmps12
  go_wp2_with (first
    | (go_at_call 37; ((with_reducible refine cV.mono ?_); rintro e w' ⟨rfl, rfl⟩))
    | (go_at_call 38; ((with_reducible refine cA.mono ?_); rintro e w' ⟨rfl, rfl⟩)))
  go_ret2
  exact ⟨rfl, rfl⟩
set_option maxHeartbeats 1000000 in
theorem interned_ok {w : World} {tb : Nat} {G : Nat → Nat} {m : Tb} (h : TableAt w tb G m) {i : Nat} {y : Sy} (hy : m.syms[i]? = some y) :
    Calls Tryd.prog 14 #[hptr tb, .int .i64 i] w fun e w' => e = .returned (.bool y.intd) ∧ w' = w := by
  obtain ⟨g, c, c0, hi, c4, c5⟩ := h.sym hy
  have cV := h.valid (by omega)
  have cA := at_yes tb m.syms.length c g i w hi c0
  clear h hy hi c4
  generalize m.syms.length = n at *
  go_enter Tryd.func14, Tryd.ntmps14
  go_wp2_with (first
    | (go_at_call 37; ((with_reducible refine cV.mono ?_); rintro e w' ⟨rfl, rfl⟩))
    | (go_at_call 38; ((with_reducible refine cA.mono ?_); rintro e w' ⟨rfl, rfl⟩)))
  go_ret
  exact ⟨rfl, rfl⟩
/-- A slice of strings that came in. -/
def ArgS (w : World) (v : Value) (L : List ByteArray) : Prop :=
  (v = .slice none 0 0 ∧ L = []) ∨ (∃ a c, v = .slice (some a) 0 c ∧ L = []) ∨
    (0 < L.length ∧ ∃ b o c, v = .slice (some ⟨b, o, none⟩) L.length c ∧ b < w.heap.size ∧ ∀ j a, L[j]? = some a → w.cell? ⟨b, o + j, none⟩ = some (.string a))
theorem ArgS.slice {w : World} {v : Value} {L : List ByteArray} (h : ArgS w v L) : ∃ a c, v = .slice a L.length c := by
  rcases h with ⟨rfl, rfl⟩ | ⟨a, c, rfl, rfl⟩ | ⟨_, b, o, c, rfl, _⟩
  · exact ⟨none, 0, rfl⟩
  · exact ⟨_, c, rfl⟩
  · exact ⟨_, c, rfl⟩
theorem ArgS.elem {w : World} {a0 : Option Addr} {c0 k : Nat} {L : List ByteArray} {a : ByteArray} (h : ArgS w (.slice a0 L.length c0) L) (ha : L[k]? = some a) : ∃ b o, a0 = some ⟨b, o, none⟩ ∧ b < w.heap.size ∧ w.cell? ⟨b, o + k, none⟩ = some (.string a) := by
  have hl := (List.getElem?_eq_some_iff.1 ha).1
  rcases h with ⟨_, e⟩ | ⟨_, _, _, e⟩ | ⟨_, b, o, c, e, hb, hc⟩
  · rw [e] at hl; simp at hl
  · rw [e] at hl; simp at hl
  · cases e
    exact ⟨b, o, rfl, hb, hc k a ha⟩
/-- A slice of bools that came in. -/
def ArgB (w : World) (v : Value) (L : List Bool) : Prop :=
  (v = .slice none 0 0 ∧ L = []) ∨ (∃ a c, v = .slice (some a) 0 c ∧ L = []) ∨
    (0 < L.length ∧ ∃ b o c, v = .slice (some ⟨b, o, none⟩) L.length c ∧ b < w.heap.size ∧ ∀ j a, L[j]? = some a → w.cell? ⟨b, o + j, none⟩ = some (.bool a))
theorem ArgB.slice {w : World} {v : Value} {L : List Bool} (h : ArgB w v L) : ∃ a c, v = .slice a L.length c := by
  rcases h with ⟨rfl, rfl⟩ | ⟨a, c, rfl, rfl⟩ | ⟨_, b, o, c, rfl, _⟩
  · exact ⟨none, 0, rfl⟩
  · exact ⟨_, c, rfl⟩
  · exact ⟨_, c, rfl⟩
theorem ArgB.elem {w : World} {a0 : Option Addr} {c0 k : Nat} {L : List Bool} {a : Bool} (h : ArgB w (.slice a0 L.length c0) L) (ha : L[k]? = some a) : ∃ b o, a0 = some ⟨b, o, none⟩ ∧ b < w.heap.size ∧ w.cell? ⟨b, o + k, none⟩ = some (.bool a) := by
  have hl := (List.getElem?_eq_some_iff.1 ha).1
  rcases h with ⟨_, e⟩ | ⟨_, _, _, e⟩ | ⟨_, b, o, c, e, hb, hc⟩
  · rw [e] at hl; simp at hl
  · rw [e] at hl; simp at hl
  · cases e
    exact ⟨b, o, rfl, hb, hc k a ha⟩
/-- What LightTexts says. -/
def lightS (L : List ByteArray) (n b : Nat) : Bool := L.all (fun s => decide (s.size ≤ b)) && decide (L.length ≤ n)
set_option maxHeartbeats 1000000 in
theorem light_any {w0 w : World} (v : Value) (L : List ByteArray) (n b : Nat) (hA : ArgS w0 v L) (hw : Below w0.heap.size w0 w) (hL : (L.length : Int) ≤ 9223372036854775807) :
    Calls Tryd.prog 27 #[v, .int .i64 n, .int .i64 b] w fun e w' => e = .returned (.bool (lightS L n b)) ∧ w' = w := by
  obtain ⟨a0, c0, rfl⟩ := hA.slice
  obtain ⟨r, hr⟩ : ∃ r, lightS L n b = r := ⟨_, rfl⟩
  rw [hr]
  have HR := Lib.hid hr
  have HA := Lib.hid (fun k a (ha : L[k]? = some a) => hA.elem ha)
  have HW := Lib.hid hw
  clear hA hr hw
  go_enter Tryd.func27, Tryd.ntmps27
  go_wp2
  go_loopw [7] (fun i wr => ∃ k : Nat, i = .int .i64 k ∧ k ≤ L.length ∧ wr = w ∧ Hid ((L.take k).all (fun s => decide (s.size ≤ b)) = true)) (fun i _ => L.length - (RowKit.intOf i).toNat)
  case atStart => exact ⟨0, rfl, Nat.zero_le _, rfl, Lib.hid rfl⟩
  case round =>
    obtain ⟨k, rfl, hk, rfl, HT⟩ := hrel
    by_cases hlt : (k : Int) < (L.length : Int)
    · obtain ⟨s, hsk⟩ : ∃ s, L[k]? = some s := ⟨L[k]'(by omega), List.getElem?_eq_getElem _⟩
      obtain ⟨g, o, e0, hg, hc⟩ := HA.out k s hsk
      subst e0
      have q0 : wr.cell? ⟨g, o + k, none⟩ = some (.string s) := (HW.out.cell (p := ⟨g, o + k, none⟩) hg).trans hc
      have HS := Lib.hid hsk
      clear hc hsk hg
      by_cases hsz : (b : Int) < (s.size : Int)
      · have er : r = false := by
          rw [← HR.out]
          unfold lightS
          rw [Bool.and_eq_false_iff]
          left
          rw [List.all_eq_false]
          exact ⟨s, List.mem_iff_getElem?.2 ⟨k, HS.out⟩, by simp; omega⟩
        subst er
        go_wp2
        go_ret
        exact ⟨rfl, rfl⟩
      · have e1 : L.take (k + 1) = L.take k ++ [s] := by rw [List.take_add_one, HS.out]; rfl
        have hall : (L.take (k + 1)).all (fun s => decide (s.size ≤ b)) = true := by
          rw [e1, List.all_append, HT.out]
          simp; omega
        have HT2 := Lib.hid hall
        clear e1 hall
        go_wp2
        go_roundw
        case rel => exact ⟨k + 1, by go_num, by omega, trivial, HT2⟩
        case measure => simp [RowKit.intOf]; omega
    · have hkn : k = L.length := by omega
      subst hkn
      have hall : L.all (fun s => decide (s.size ≤ b)) = true := by have := HT.out; rwa [List.take_length] at this
      have er : r = decide ((L.length : Int) ≤ (n : Int)) := by
        rw [← HR.out]
        unfold lightS
        rw [hall]
        by_cases h : L.length ≤ n
        · rw [decide_eq_true h, decide_eq_true (by omega)]; rfl
        · rw [decide_eq_false h, decide_eq_false (by omega)]; rfl
      subst er
      clear hall
      go_wp2
      go_ret
      exact ⟨rfl, rfl⟩
end Go.Proofs.YtponbhhkccpbfaaDoor
