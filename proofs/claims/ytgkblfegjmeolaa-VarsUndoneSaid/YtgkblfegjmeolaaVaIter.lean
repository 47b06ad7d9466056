/- slices.Backward over a part of the row of bindings: what it hands to a loop's body. -/
import Derived.Test.YtgkblfegjmeolaaVaRest
import Derived.RangeFuncNested
import Derived.RangeFuncBound
import Derived.RangeFuncCalls
import Derived.RangeFuncLeaves
import Derived.Shelf.Abstract
import Derived.Shelf.RegionOpen
import Derived.OwnWalkIn
import Derived.TacticsInMore
import Derived.LoopNIn
import Derived.LoopIn
namespace Go.Proofs.Ytgkblfegjmeolaa
open Go.RowKit Go.Lib Go.Shelf
attribute [local go_sem] Oper.semAt_some
/-- What a round keeps: of the blocks that lay when the loop began, all but the cells. -/
def Kp (G : Nat → Nat) (B : Nat) (W W' : World) : Prop := ∀ k, k < B → G k ≠ 2 → G k < 6 → W'.heap[k]? = W.heap[k]?
theorem Kp.refl (G : Nat → Nat) (B : Nat) (W : World) : Kp G B W W := fun _ _ _ _ => rfl
theorem Kp.trans {G : Nat → Nat} {B : Nat} {W W' W'' : World} (h : Kp G B W W') (k : Kp G B W' W'') : Kp G B W W'' := fun j h1 h2 h3 => (k j h1 h2 h3).trans (h j h1 h2 h3)
abbrev bag (b : Bd) : Value := .agg #[.int .i64 b.c.1.1, .int .i64 b.c.1.2, .bool b.c.2, bfun b]
/-- Bindings lie in a row of cells from an offset on. -/
def BAt (W : World) (g off : Nat) (zs : List Bd) : Prop := ∀ k b, zs[k]? = some b → W.cell? ⟨g, off + k * 4, none⟩ = some (.int .i64 b.c.1.1) ∧ W.cell? ⟨g, off + k * 4 + 1, none⟩ = some (.int .i64 b.c.1.2) ∧ W.cell? ⟨g, off + k * 4 + 2, none⟩ = some (.bool b.c.2) ∧ W.cell? ⟨g, off + k * 4 + 3, none⟩ = some (bfun b)
theorem BAt.kp {G : Nat → Nat} {B g off : Nat} {W W' : World} {zs : List Bd} (h : BAt W g off zs) (hk : Kp G B W W') (hg : g < B) (hG : G g = 4) : BAt W' g off zs := fun k b hb => by
  obtain ⟨h1, h2, h3, h4⟩ := h k b hb
  have e := hk g hg (by rw [hG]; decide) (by rw [hG]; decide)
  exact ⟨(World.cell?_of_block (a := ⟨g, _, none⟩) e).trans h1, (World.cell?_of_block (a := ⟨g, _, none⟩) e).trans h2, (World.cell?_of_block (a := ⟨g, _, none⟩) e).trans h3, (World.cell?_of_block (a := ⟨g, _, none⟩) e).trans h4⟩
/-- A slice value that holds bindings, in the row labelled 4. -/
def BSl (G : Nat → Nat) (B : Nat) (W : World) (v : Value) (zs : List Bd) : Prop :=
  (∃ a c, v = .slice a 0 c ∧ zs = []) ∨ ∃ g off c, v = .slice (some ⟨g, off, none⟩) zs.length c ∧ g < B ∧ G g = 4 ∧ BAt W g off zs
theorem BSl.slice {G : Nat → Nat} {B : Nat} {W : World} {v : Value} {zs : List Bd} (h : BSl G B W v zs) : ∃ a c, v = .slice a zs.length c := by
  rcases h with ⟨a, c, rfl, rfl⟩ | ⟨g, off, c, rfl, _⟩
  · exact ⟨a, c, rfl⟩
  · exact ⟨_, c, rfl⟩
theorem BSl.kp {G : Nat → Nat} {B : Nat} {W W' : World} {v : Value} {zs : List Bd} (h : BSl G B W v zs) (hk : Kp G B W W') : BSl G B W' v zs := by
  rcases h with h | ⟨g, off, c, e, h1, h2, h3⟩
  · exact .inl h
  · exact .inr ⟨g, off, c, e, h1, h2, h3.kp hk h1 h2⟩
theorem BSl.at {G : Nat → Nat} {B : Nat} {W : World} {a : Option Addr} {c : Nat} {zs : List Bd} (h : BSl G B W (.slice a zs.length c) zs) {k : Nat} {b : Bd} (hb : zs[k]? = some b) :
    ∃ g off, a = some ⟨g, off, none⟩ ∧ W.cell? ⟨g, off + k * 4, none⟩ = some (.int .i64 b.c.1.1) ∧ W.cell? ⟨g, off + k * 4 + 1, none⟩ = some (.int .i64 b.c.1.2) ∧ W.cell? ⟨g, off + k * 4 + 2, none⟩ = some (.bool b.c.2) ∧ W.cell? ⟨g, off + k * 4 + 3, none⟩ = some (bfun b) := by
  rcases h with ⟨a, c, e, rfl⟩ | ⟨g, off, c', e, _, _, h3⟩
  · simp at hb
  · cases e
    exact ⟨g, off, rfl, h3 k b hb⟩
theorem back_any (a : Option Addr) (n c : Nat) (w : World) : Calls Try.prog 49 #[.slice a n c] w fun e w' => e = .returned (.func (.func 63) #[] #[hptr w.heap.size]) ∧ w' = w.alloc (.cells #[.slice a n c] 56) := by
  go_enter Try.func49, Try.ntmps49
  go_wp2
  go_ret
  exact ⟨rfl, rfl⟩
set_option maxRecDepth 100000 in
set_option maxHeartbeats 4000000 in
theorem back1_in (F : Fence) (n : Nat) (h7 : F.fn 63) (hro : F.round = none) (hn : 1 ≤ n) (l Bs B : Nat) (G : Nat → Nat) (a : Option Addr) (c : Nat) (zs : List Bd) (hz : zs.length ≤ 2000) (hBs : Bs < B) (hGs : G Bs = 0) (J Jx : List (Nat × { b : Bd // b ∈ zs }) → World → Prop)
    (hY : ∀ pre x W, J pre W → pre.length < zs.length → YieldAt F (n - 1) Try.prog l #[.int .i64 (x.1 : Int), bag x.2.1] W fun e W' =>
      (e = .returned (.bool true) ∧ J (pre ++ [x]) W' ∧ Kp G B W W') ∨ (e = .returned (.bool false) ∧ Jx (pre ++ [x]) W'))
    (W : World) (hc : W.cell? ⟨Bs, 0, none⟩ = some (.slice a zs.length c)) (hS : BSl G B W (.slice a zs.length c) zs) (h0 : J [] W) :
    CallsIn F n Try.prog 63 #[.func (.yield l) #[] #[], .pointer (some ⟨Bs, 0, none⟩)] W fun e W' => (∃ v, e = .returned v) ∧
      ((∃ ys, ys.map (fun x => x.2.1) = zs.reverse ∧ J ys W') ∨ (∃ pre, True ∧ Jx pre W')) := by
  have hBc : ∀ X, Kp G B W X → X.cell? ⟨Bs, 0, none⟩ = some (.slice a zs.length c) := fun X hX => (World.cell?_of_block (a := ⟨Bs, 0, none⟩) (hX Bs hBs (by rw [hGs]; decide) (by rw [hGs]; decide))).trans hc
  have HS := Lib.hid (And.intro hS hBc)
  clear hS hBc
  have HL := Lib.hid hz
  obtain ⟨len, hlen⟩ : ∃ len, zs.length = len := ⟨_, rfl⟩
  have hz2 : len ≤ 2000 := by omega
  have HLen := Lib.hid hlen
  rw [hlen] at hc
  clear hz hlen
  refine callsIn_of_wp Try.func63 rfl h7 ?_ hro
  simp only [Try.ntmps63, List.size_toArray, List.length_cons, List.length_nil, Nat.reduceAdd, Nat.reduceSub, Array.replicate_succ, Array.replicate_zero, List.push_toArray, List.append_toArray, List.nil_append, List.cons_append]
  gi_wp2
  gi_loopw [3] (fun i wr => ∃ (k : Nat) (z : Int) (pre : List (Nat × { b : Bd // b ∈ zs })), k ≤ len ∧ z = (k : Int) - 1 ∧ i = .int .i64 z ∧ pre.length + k = len ∧ Hid (pre.map (fun x => x.2.1) = (zs.drop k).reverse) ∧ J pre wr ∧ Kp G B W wr) (fun i _ => (intOf i + 1).toNat)
  case atStart => exact ⟨len, _, [], Nat.le_refl _, rfl, rfl, by simp, Lib.hid (by rw [← HLen.out]; simp), h0, Kp.refl _ _ _⟩
  case round =>
    obtain ⟨k, z, pre, hk, hzk, rfl, hpl, HP, hJs, hkp⟩ := hrel
    cases k with
    | zero =>
      obtain rfl : z = -1 := by simpa using hzk
      clear hpl hk hzk
      gi_wp2
      go_end0
      exact ⟨⟨_, rfl⟩, .inl ⟨pre, by have := HP.out; simpa using this, hJs⟩⟩
    | succ k =>
      obtain rfl : z = (k : Int) := by omega
      obtain ⟨b, hb⟩ : ∃ b, zs[k]? = some b := ⟨zs[k]'(by have := HLen.out; omega), List.getElem?_eq_getElem _⟩
      have hmem : b ∈ zs := List.mem_of_getElem? hb
      obtain ⟨fn, tmps, assign, body, hy, hR⟩ := hY pre (k, ⟨b, hmem⟩) wr hJs (by have := HLen.out; omega)
      dsimp only at hy
      obtain ⟨g, off, rfl, q0, q1, q2, q3⟩ := (HS.out.1.kp hkp).at hb
      have hcx := HS.out.2 wr hkp
      rw [HLen.out] at hcx
      have hkI : (k : Int) < (len : Int) := by omega
      have hk0 : (0 : Int) ≤ (k : Int) := by omega
      have HB := Lib.hid (And.intro hb (And.intro hpl hkp))
      clear hb hpl hkp hzk hk
      gi_wp2
      refine hR.mono ?_
      rintro e W3 (⟨rfl, hJ3, hk3⟩ | ⟨rfl, hJx3⟩)
      · have HK3 := Lib.hid hk3
        clear hk3
        gi_wp2
        go_roundw
        case rel =>
          refine ⟨k, _, pre ++ [(k, ⟨b, hmem⟩)], by have := HB.out.2.1; omega, rfl, rfl, by have := HB.out.2.1; simp; omega, Lib.hid ?_, hJ3, HB.out.2.2.trans HK3.out⟩
          have hlt := (List.getElem?_eq_some_iff.1 HB.out.1).1
          have hbe := (List.getElem?_eq_some_iff.1 HB.out.1).2
          rw [List.map_append, HP.out, List.drop_eq_getElem_cons hlt, List.reverse_cons, hbe]
          rfl
        case measure => first | (simp [intOf]; done) | (simp [intOf]; omega)
      · gi_wp2
        refine bodyPost_ret (results_none rfl _ _ _) rfl ?_
        exact ⟨⟨_, rfl⟩, .inr ⟨_, trivial, hJx3⟩⟩
/-- What slices.Backward hands back, as an iterator: the bindings, the last one first. -/
theorem back_stops (F : Fence) (n : Nat) (h7 : F.fn 63) (hro : F.round = none) (hn : 1 ≤ n) (Bs B : Nat) (G : Nat → Nat) (a : Option Addr) (c : Nat) (zs : List Bd) (hz : zs.length ≤ 2000) (w : World) (hBs : Bs < B) (hGs : G Bs = 0) (hB : B ≤ w.heap.size)
    (hc : w.cell? ⟨Bs, 0, none⟩ = some (.slice a zs.length c)) (hS : BSl G B w (.slice a zs.length c) zs) :
    SeqStopsK F n Try.prog 63 #[.pointer (some ⟨Bs, 0, none⟩)] (fun x : Nat × { b : Bd // b ∈ zs } => #[Value.int .i64 (x.1 : Int), bag x.2.1]) (Kp G B) (fun ys => ys.map (fun x => x.2.1) = zs.reverse) (fun _ => True) zs.length w := fun l J Jx W hW _ _ hY h0 => by
  have hk : Kp G B w W := fun k hk _ _ => hW.block k (by omega)
  exact back1_in F n h7 hro hn l Bs B G a c zs hz hBs hGs J Jx hY W ((World.cell?_of_block (a := ⟨Bs, 0, none⟩) (hW.block Bs (by omega))).trans hc) (hS.kp hk) h0
end Go.Proofs.Ytgkblfegjmeolaa
