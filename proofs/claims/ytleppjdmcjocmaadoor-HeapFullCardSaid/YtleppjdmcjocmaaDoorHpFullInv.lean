/- The law HeapFull: the heap it builds, its own row. -/
import Derived.Test.YtleppjdmcjocmaaDoorHpAddOld
import Derived.Test.YtleppjdmcjocmaaDoorHpColInv
import Derived.Test.YtleppjdmcjocmaaDoorHpOwn
namespace Go.Proofs.YtleppjdmcjocmaaDoor
open Go.RowKit Go.Lib
def fob (i : Nat) : Option Ob := some (.pair (0, (i : Int)) (1, 0))
/-- The heap with k conses. -/
def fm (n k : Nat) : Hp := ⟨n, (List.range k).map fob, []⟩
/-- The words of the conses. -/
def fw (k : Nat) : List Wd := (List.range k).map fun (i : Nat) => ((2 : Int), (i : Int))
theorem fw_length (k : Nat) : (fw k).length = k := by simp [fw]
theorem fw_snoc (k : Nat) : fw (k + 1) = fw k ++ [(2, (k : Int))] := by simp [fw, List.range_succ]
theorem fm_snoc (n k : Nat) : fm n (k + 1) = (fm n k).addNew (.pair (0, (k : Int)) (1, 0)) := by simp [fm, Hp.addNew, List.range_succ, fob]
theorem fm_total (n k : Nat) : total (fm n k).obs = 0 := by
  induction k with
  | zero => rfl
  | succ k ih =>
    rw [fm_snoc]
    simp only [Hp.addNew, total_append, ih]
    rfl
theorem fm_length (n k : Nat) : (fm n k).obs.length = k := by simp [fm]
theorem adds_fm {hb : Nat} {G : Nat → Nat} {n k : Nat} (h : k < n) : AddsTo hb G (fm n k) (fm n (k + 1)) (.pair (0, (k : Int)) (1, 0)) (2, (k : Int)) 0 := by
  have h2 := adds_new (hb := hb) (G := G) (m := fm n k) (o := .pair (0, (k : Int)) (1, 0)) rfl (by rw [fm_length]; exact h) (by rw [fm_total]; simp [Ob.size])
  rw [← fm_snoc, fm_length] at h2
  exact h2
theorem full_fm {hb : Nat} {G : Nat → Nat} {n : Nat} (o : Ob) : AddsTo hb G (fm n n) (fm n n) o (0, 0) 7 := adds_full (by rw [fm_length]; simp [fm])
/-- The law's row of words. -/
structure FRow (w wr : World) (G D : Nat → Nat) (v : Value) (L : List Wd) : Prop where
  row : Row wr D 1 28 2 v L.length (wcells L)
  sep : ∀ k, D k ≠ 0 → k < wr.heap.size → w.heap.size ≤ k ∧ G k = 0
theorem FRow.junk {w wr wr' : World} {G D : Nat → Nat} {v : Value} {L : List Wd} (h : FRow w wr G D v L) (hw : Below wr.heap.size wr wr') : FRow w wr' G (fun k => if k < wr.heap.size then D k else 0) v L :=
  ⟨h.row.keep (fun k hk _ => hw.block k hk) (fun k hk e => (if_pos hk).trans e), fun k hk _ => by
    by_cases h1 : k < wr.heap.size
    · rw [if_pos h1] at hk; exact h.sep k hk h1
    · rw [if_neg h1] at hk; exact absurd rfl hk⟩
theorem FRow.went {w wr w' : World} {hb : Nat} {G G' D : Nat → Nat} {m' : Hp} {v : Value} {L : List Wd} (h : FRow w wr G D v L) (hw : Went wr w' hb G m') (hg : ∀ k, k < wr.heap.size → (G' k = 0 ↔ G k = 0)) : FRow w w' G' (fun k => if k < wr.heap.size then D k else 0) v L :=
  ⟨h.row.keep (fun k hk e => hw.keeps.block k hk (h.sep k (by omega) hk).2) (fun k hk e => (if_pos hk).trans e), fun k hk _ => by
    by_cases h1 : k < wr.heap.size
    · rw [if_pos h1] at hk
      exact ⟨(h.sep k hk h1).1, (hg k h1).2 (h.sep k hk h1).2⟩
    · rw [if_neg h1] at hk; exact absurd rfl hk⟩
theorem FRow.push {w wr W w' : World} {G D : Nat → Nat} {v v' : Value} {L L' : List Wd} (h : FRow w wr G D v L) (hz : w.heap.size ≤ wr.heap.size) (hG : ∀ k, wr.heap.size ≤ k → G k = 0) (hW : Below wr.heap.size wr W)
    (hrow : Row w' (fun k => if k < W.heap.size then D k else 1) 1 28 2 v' L'.length (wcells L')) : FRow w w' G (fun k => if v'.ownBlock = some k then 1 else 0) v' L' := by
  have hzW := hW.size
  refine ⟨row_slim hrow _ (fun k hk => if_pos hk), fun k hk hkz => ?_⟩
  have h2 : v'.ownBlock = some k := Classical.byContradiction fun e => hk (if_neg e)
  by_cases h1 : k < wr.heap.size
  · refine h.sep k ?_ h1
    have := hrow.lab k h2
    rw [if_pos (by omega)] at this
    omega
  · exact ⟨by omega, hG k (by omega)⟩
theorem FRow.nil {w wr : World} {G : Nat → Nat} : FRow w wr G (fun _ => 0) (.slice none 0 0) [] := ⟨Row.nil _ _ _ _ _, fun _ hk _ => absurd rfl hk⟩
theorem own_row' {w : World} {B e size : Nat} {v : Value} {n : Nat} {xs : List Value} (h : w.ownsRow B e size v n xs) : Row w (fun k => if B ≤ k then 1 else 0) 1 e size v n xs := ⟨own_base h (Nat.zero_le _), fun k hk => if_pos (h.lt k hk).1⟩
theorem four_keep {w w' : World} (h : Below w.heap.size w w') {p q : Nat} {v0 v1 v2 v3 : Value} (zp : p < w.heap.size) (zq : q < w.heap.size) (h0 : w.cell? ⟨p, 0, none⟩ = some v0) (h1 : w.cell? ⟨p, 1, none⟩ = some v1) (h2 : w.cell? ⟨q, 0, none⟩ = some v2) (h3 : w.cell? ⟨q, 1, none⟩ = some v3) :
    w'.cell? ⟨p, 0, none⟩ = some v0 ∧ w'.cell? ⟨p, 1, none⟩ = some v1 ∧ w'.cell? ⟨q, 0, none⟩ = some v2 ∧ w'.cell? ⟨q, 1, none⟩ = some v3 ∧ p < w'.heap.size ∧ q < w'.heap.size :=
  ⟨(h.cell (p := ⟨p, 0, none⟩) zp).trans h0, (h.cell (p := ⟨p, 1, none⟩) zp).trans h1, (h.cell (p := ⟨q, 0, none⟩) zq).trans h2, (h.cell (p := ⟨q, 1, none⟩) zq).trans h3, Nat.lt_of_lt_of_le zp h.size, Nat.lt_of_lt_of_le zq h.size⟩
theorem src_take {w W : World} {D : Nat → Nat} {L n k g cap : Nat} {l : List Wd} (h : Row w D L 28 2 (.slice (some ⟨g, 0, none⟩) n cap) n (wcells l)) (hk : k ≤ l.length) (hW : Below w.heap.size w W) : Src W 2 (.slice (some ⟨g, 0, none⟩) k cap) k (wcells (l.take k)) := by
  refine .inr ⟨_, cap, rfl, by rw [wcells_length, List.length_take]; omega, fun j u hu => ?_⟩
  have hj := (List.getElem?_eq_some_iff.1 hu).1
  have e : wcells l = wcells (l.take k) ++ wcells (l.drop k) := by rw [← wcells_append, List.take_append_drop]
  have hu2 : (wcells l)[j]? = some u := by rw [e, List.getElem?_append_left hj]; exact hu
  have e2 : (⟨g, 0, none⟩ : Addr).add j = ⟨g, j, none⟩ := by by_cases hj : j = 0 <;> simp [Addr.add, hj]
  rw [e2, hW.cell (p := ⟨g, j, none⟩) (h.lt g rfl)]
  exact h.cell hu2
theorem src_drop {w W : World} {D : Nat → Nat} {L n k g cap : Nat} {l : List Wd} (h : Row w D L 28 2 (.slice (some ⟨g, 0, none⟩) n cap) n (wcells l)) (hW : Below w.heap.size w W) :
    ∀ j u, (wcells (l.drop k))[j]? = some u → W.cell? ((⟨g, k * 2, none⟩ : Addr).add j) = some u := by
  intro j u hu
  have hj := (List.getElem?_eq_some_iff.1 hu).1
  rw [wcells_length, List.length_drop] at hj
  have e : wcells l = wcells (l.take k) ++ wcells (l.drop k) := by rw [← wcells_append, List.take_append_drop]
  have hlt : (wcells (l.take k)).length = k * 2 := by rw [wcells_length, List.length_take]; omega
  have hu2 : (wcells l)[k * 2 + j]? = some u := by rw [e, List.getElem?_append_right (by omega), hlt, show k * 2 + j - k * 2 = j by omega]; exact hu
  have e2 : (⟨g, k * 2, none⟩ : Addr).add j = ⟨g, k * 2 + j, none⟩ := by by_cases hj : j = 0 <;> simp [Addr.add, hj]
  rw [e2, hW.cell (p := ⟨g, k * 2 + j, none⟩) (h.lt g rfl)]
  exact h.cell hu2
end Go.Proofs.YtleppjdmcjocmaaDoor
