/- A table behind add; addInterned. -/
import Derived.Test.YtponbhhkccpbfaaDoorNmAdd
namespace Go.Proofs.YtponbhhkccpbfaaDoor
open Go.RowKit Go.Lib Go.Shelf
theorem own_slim {w : World} {D : Nat → Nat} {L e size n : Nat} {v : Value} {xs : List Value} (h : Row w D L e size v n xs) : ∀ D' : Nat → Nat, (∀ k, v.ownBlock = some k → D' k = L) → Row w D' L e size v n xs := fun _ hd => ⟨h.own, hd⟩
theorem Tb.isMap {w : World} {mb n : Nat} {m : Tb} (h : w.ownsMap Tryd.prog 9 (Go.plainElem Tryd.prog 3) mb n m.D) : Go.Maps.IsMap m.D := by
  obtain ⟨es, clock, _, _, _, e⟩ := h
  exact ⟨_, e⟩
/-- A table behind an added symbol. -/
theorem added_table {w w1 w2 : World} {tb mb : Nat} {G : Nat → Nat} {m : Tb} {vs' : Value} {rs : List (Sy × Value)} {s : ByteArray} {b : Bool} (ok : m.Ok) (lab : G tb = 1) (htl : tb < w.heap.size) (h2 : rs.map Prod.fst = m.syms)
    (h4 : G mb = 3) (h5 : w.ownsMap Tryd.prog 9 (Go.plainElem Tryd.prog 3) mb m.syms.length m.D) (h6 : ∀ i s v, rs[i]? = some (s, v) → Row w G (4 + i) 66 3 v s.ps.length (pcells s.ps))
    (hA : Added w w1 tb G (.map (some mb)) vs' (rs.length + 1) (tcells rs ++ fcells s b)) (hz : w1.heap.size ≤ w2.heap.size) (ho : w2.os = w1.os) (ht : w2.tape = w1.tape) (hp : w2.output = w1.output)
    (hblk : ∀ k, k < w1.heap.size → k ≠ mb → w2.heap[k]? = w1.heap[k]?) (hm : w2.ownsMap Tryd.prog 9 (Go.plainElem Tryd.prog 3) mb (m.syms.length + 1) (m.add (fy s b)).D)
    (hl : m.syms.length < 16384) (hs : s.size ≤ 281474976710656) (hf : b = true → m.find s = none) : WentT w w2 tb G (m.add (fy s b)) := by
  have hmb := h5.lt
  have hz1 := hA.size
  have htm : tb ≠ mb := fun e => by rw [e, h4] at lab; omega
  refine ⟨⟨ho.trans hA.os, ht.trans hA.tape, hp.trans hA.output, by omega, fun k hk hz0 => (hblk k (by omega) (fun e => by rw [e, h4] at hz0; omega)).trans (hA.block k hk (by omega) (by omega))⟩, fun k => if k < w.heap.size then G k else if vs'.ownBlock = some k then 2 else 0, ?_, fun k hk => by simp only [if_pos hk]⟩
  refine ⟨⟨by simp [Tb.add]; omega, fun y hy => ?_, ok.maps.add (Tb.isMap h5) _ hf⟩, fun k hk => ?_, by simp only [if_pos htl]; exact lab, vs', mb, rs ++ [(fy s b, .slice none 0 0)], (hblk tb (by omega) htm).trans hA.tab, by simp [Tb.add, h2], ?_, by simp only [if_pos hmb]; exact h4, by simpa [Tb.add] using hm, fun i s' v hi => ?_⟩
  · simp only [Tb.add, List.mem_append, List.mem_singleton] at hy
    rcases hy with hy | rfl
    · exact ok.names y hy
    · exact hs
  · rw [if_neg (by omega)]
    by_cases e : vs'.ownBlock = some k
    · have := hA.row.lt k e
      omega
    · rw [if_neg e]
  · have e1 : tcells (rs ++ [(fy s b, .slice none 0 0)]) = tcells rs ++ fcells s b := by rw [tcells_append]; rfl
    have e2 : (rs ++ [(fy s b, Value.slice none 0 0)]).length = rs.length + 1 := by simp
    rw [e1, e2]
    have hk := hA.row.keep (w' := w2) (G' := fun k => if k < w.heap.size then G k else 2) (fun k hk e => hblk k hk (fun e2 => by rw [e2, if_pos hmb, h4] at e; omega)) (fun _ _ e => e)
    refine own_slim hk _ (fun k hk2 => ?_)
    have e3 := hA.row.lab k hk2
    by_cases h : k < w.heap.size
    · simp only [if_pos h] at e3 ⊢; exact e3
    · simp only [if_neg h, if_pos hk2]
  · by_cases hi2 : i < rs.length
    · rw [List.getElem?_append_left hi2] at hi
      exact (h6 i s' v hi).keep (fun k hk e => (hblk k (by omega) (fun e2 => by rw [e2, h4] at e; omega)).trans (hA.block k hk (by omega) (by omega))) (fun k hk e => by simp only [if_pos hk]; exact e)
    · rw [List.getElem?_append_right (by omega)] at hi
      have h0 : i - rs.length = 0 := by
        rcases Nat.eq_zero_or_pos (i - rs.length) with h | h
        · exact h
        · rw [List.getElem?_eq_none (by simp; omega)] at hi; cases hi
      rw [h0] at hi
      simp at hi
      obtain ⟨rfl, rfl⟩ := hi
      exact Row.nil _ _ _ _ _
theorem WentT.after {w W w2 : World} {tb : Nat} {G : Nat → Nat} {m : Tb} (hW : Below w.heap.size w W) (h : WentT W w2 tb G m) : WentT w w2 tb G m := by
  obtain ⟨hk, G', h1, h2⟩ := h
  exact ⟨(Keeps.of_below hW).trans hk (fun _ _ e => e), G', h1, fun k hk => h2 k (Nat.lt_of_lt_of_le hk hW.size)⟩
theorem skey : Go.Maps.Keyed Tryd.prog 9 := Go.Maps.string_keyed Tryd.underlying9
theorem zeroE (w : World) : (zeroValue 3).run Tryd.prog w = .ok (.int .i64 0) w := by kernel_rfl
set_option maxHeartbeats 1000000 in
theorem addI_any {w : World} {tb : Nat} {G : Nat → Nat} {m : Tb} (h : TableAt w tb G m) (s : ByteArray) (hs : s.size ≤ 281474976710656) (hl : m.syms.length < 16384) (hf : m.find s = none) :
    Calls Tryd.prog 41 #[hptr tb, .string s] w fun e w' => e = .returned (.int .i64 m.syms.length) ∧ WentT w w' tb G (m.add (fy s true)) := by
  have cC := clone_any s w hs
  obtain ⟨ok, new, lab, vs, mb, rs, h1, h2, h3, h4, h5, h6⟩ := h
  have hrl : rs.length = m.syms.length := by rw [← h2]; simp
  have cA := fun W (hW : Below w.heap.size w W) => add_core tb rs.length s true (.map (some mb)) vs G (tcells rs) W ((hW.block tb (lt_at h1)).trans h1) (h3.keep (fun k hk _ => hW.block k hk) (fun _ _ e => e)) lab (by omega)
  have CA := Lib.hid cA
  have h0 : ∀ W, Below w.heap.size w W → tb < W.heap.size ∧ W.ownsMap Tryd.prog 9 (Go.plainElem Tryd.prog 3) mb m.syms.length m.D ∧ ∀ i s v, rs[i]? = some (s, v) → Row W G (4 + i) 66 3 v s.ps.length (pcells s.ps) := fun W hW =>
    ⟨Nat.lt_of_lt_of_le (lt_at h1) hW.size, ownsMap_move h5 (hW.block mb h5.lt), fun i s v hi => (h6 i s v hi).keep (fun k hk _ => hW.block k hk) (fun _ _ e => e)⟩
  have H := Lib.hid (And.intro ok (And.intro lab (And.intro h2 (And.intro h4 h0))))
  have HL := Lib.hid (And.intro hs (And.intro hl (And.intro hf hrl)))
  have hkey := Go.WideMaps.keyOf_string_mk (P := Tryd.prog) (k := 9) Tryd.underlying9 (s := s) (by unfold maxLen; omega)
  have hn63 : m.syms.length < maxLen := by unfold maxLen; omega
  have hwf : (Lit.int .i64 (m.syms.length : Int)).wf = true := Go.WalkArith.wf_i64 (by omega)
  clear cA ok new lab h0 h1 h2 h3 h4 h5 h6 hs hl hf hrl
  go_enter Tryd.func41, Tryd.ntmps41
  go_wp2_with (go_at_call 43; ((with_reducible refine cC.mono ?_); rintro e W ⟨rfl, hb⟩))
  refine (CA.out _ hb).mono ?_
  rintro e W1 ⟨rfl, vs', hA⟩
  have c1 : W1.cell? ⟨tb, 1, none⟩ = some (.map (some mb)) := cell_at hA.tab
  have hmo : W1.ownsMap Tryd.prog 9 (Go.plainElem Tryd.prog 3) mb m.syms.length m.D := ownsMap_move (H.out.2.2.2.2 W hb).2.1 (hA.block mb (H.out.2.2.2.2 W hb).2.1.lt (by have := H.out.2.2.2.1; omega) (by have := H.out.2.2.2.1; omega))
  have HO := Lib.hid (And.intro hA (And.intro hb hmo))
  clear hA hb CA hmo
  rw [HL.out.2.2.2]
  go_wp2_with (at_mapUpdate; refine Go.wpList_mapUpdate_own _ rfl _ _ _ 71 rfl 9 3 skey Tryd.underlying71 _ mb m.syms.length _ rfl HO.out.2.2 hn63 _ _ _ rfl rfl hkey _ [] (Go.plainElem_int Tryd.underlying3 hwf) ?_)
  intro w2 hown2 hgr2
  have HQ := Lib.hid (And.intro hown2 hgr2)
  clear hown2 hgr2 c1
  go_wp2
  go_ret
  obtain ⟨hA, hb, _⟩ := HO.out
  obtain ⟨hown2, hgr2⟩ := HQ.out
  obtain ⟨ok, lab, h2, h4, h0⟩ := H.out
  obtain ⟨q1, q2, q3⟩ := h0 W hb
  exact ⟨rfl, WentT.after hb (added_table ok lab q1 h2 h4 q2 q3 hA hgr2.size hgr2.os hgr2.tape hgr2.output (fun k hk n => hgr2.block k hk (fun e => n (by cases e; rfl))) hown2 HL.out.2.1 HL.out.1 (fun _ => HL.out.2.2.1))⟩
theorem WentT.of_below {w w' : World} {tb : Nat} {G : Nat → Nat} {m : Tb} (h : TableAt w tb G m) (hw : Below w.heap.size w w') : WentT w w' tb G m := ⟨Keeps.of_below hw, G, h.below hw, fun _ _ => Iff.rfl⟩
/-- add of a symbol that is not interned. -/
theorem addF_any {w : World} {tb : Nat} {G : Nat → Nat} {m : Tb} (h : TableAt w tb G m) (s : ByteArray) (hs : s.size ≤ 281474976710656) (hl : m.syms.length < 16384) :
    Calls Tryd.prog 42 #[hptr tb, .agg #[.int .i64 0, .int .i64 0, .bool false, .slice none 0 0, .string s, .bool false]] w fun e w' => e = .returned (.int .i64 m.syms.length) ∧ WentT w w' tb G (m.add (fy s false)) := by
  obtain ⟨ok, new, lab, vs, mb, rs, h1, h2, h3, h4, h5, h6⟩ := h
  have hrl : rs.length = m.syms.length := by rw [← h2]; simp
  refine (add_core tb rs.length s false (.map (some mb)) vs G (tcells rs) w h1 h3 lab (by omega)).mono ?_
  rintro e w1 ⟨rfl, vs', hA⟩
  have hb := hA.block mb h5.lt (by omega) (by omega)
  exact ⟨by rw [hrl], added_table ok lab (lt_at h1) h2 h4 h5 h6 hA (Nat.le_refl _) rfl rfl rfl (fun _ _ _ => rfl) ((ownsMap_move h5 hb).mono (Nat.le_succ _)) hl hs (fun e => by cases e)⟩
end Go.Proofs.YtponbhhkccpbfaaDoor
