/- The loop of Unbind, by the law of a range over a function. -/
import Derived.Test.YtgkblfegjmeolaaVaUnb
namespace Go.Proofs.Ytgkblfegjmeolaa
open Go.RowKit Go.Lib Go.Shelf
attribute [local go_sem] Oper.semAt_some
abbrev bobj (b : Bd) : Obj := .cells #[.int .i64 b.c.1.1, .int .i64 b.c.1.2, .bool b.c.2, bfun b] 68
abbrev El (zs : List Bd) := Nat × { b : Bd // b ∈ zs }
abbrev encE {zs : List Bd} (x : El zs) : Array Value := #[Value.int .i64 (x.1 : Int), bag x.2.1]
def tmE {zs : List Bd} (a : Act) (x : El zs) : Array Value := (a.tmps.setIfInBounds 28 (.int .i64 (x.1 : Int))).setIfInBounds 29 (bag x.2.1)
theorem tmE_eq {zs : List Bd} (a : Act) (x : El zs) : ((#[28, 29] : Array Tmp).zip (encE x)).foldl (fun t (p, v) => t.setIfInBounds p v) a.tmps = tmE a x := by simp [tmE, encE]
def actE {zs : List Bd} (a : Act) (x : El zs) (Bx : Nat) : Act := { tmps := (tmE a x).setIfInBounds 6 (hptr Bx), defers := [] }
theorem back_seq (G : Nat → Nat) (B Bs : Nat) (sv : Value) (zs : List Bd) (hz : zs.length ≤ 2000) (w : World) (hBs : Bs < B) (hGs : G Bs = 0) (hB : B ≤ w.heap.size) (hc : w.cell? ⟨Bs, 0, none⟩ = some sv) (hS : BSl G B w sv zs) :
    SeqStopsK Fence.wide 5 Try.prog 63 #[.pointer (some ⟨Bs, 0, none⟩)] (fun x : El zs => encE x) (Kp G B) (fun ys => ys.map (fun x => x.2.1) = zs.reverse) (fun _ => True) zs.length w := by
  obtain ⟨a, c, rfl⟩ := hS.slice
  exact back_stops Fence.wide 5 trivial rfl (by decide) Bs B G a c zs hz w hBs hGs hB hc hS
/-- How a round ends. -/
def RPost (W : World) (vb : Nat) (G : Nat → Nat) (m : Vs) (e : Exit) (_ : Act) (W' : World) : Prop := e = .normal ∧ VarsAt W' vb G m ∧ CWent W W' G G
theorem unb_rf {g : Operand} {assign body : Code} {Q : Exit → Act → World → Prop} {a : Act} {W0 : World} {vb : Nat} {G : Nat → Nat} {m : Vs} {zs : List Bd} {sv : Value} (Bs : Nat) (hg : a.eval g = .func (.func 63) #[] #[hptr Bs]) (hBs : Bs < W0.heap.size) (hGs : G Bs = 0)
    (hc : W0.cell? ⟨Bs, 0, none⟩ = some sv) (hS : BSl G W0.heap.size W0 sv zs) (hz : zs.length ≤ 2000) (hv : VarsAt W0 vb G m)
    (hassign : ∀ (l : Nat) (x : El zs) (W : World) (K : Act → World → Prop), K (actE a x W.heap.size) (W.alloc (bobj x.2.1)) →
      assign.wpIn (Fence.wide.inRound l) 4 Try.prog (Exit.then K (fun _ _ _ => False)) { tmps := tmE a x, defers := [] } W)
    (hbody : ∀ (l : Nat) (x : El zs) (Bx : Nat) (m' : Vs) (W : World), UI W0 W vb G W0.heap.size m' → W.heap[Bx]? = some (bobj x.2.1) →
      body.wpIn (Fence.wide.inRound l) 4 Try.prog (RPost W vb G (m'.rest x.2.1.out)) (actE a x Bx) W)
    (hdone : ∀ (D : Nat) (W : World), W0.heap.size ≤ D → UI W0 W vb G W0.heap.size (m.restAll (zs.map Bd.out).reverse) → W.heap[D]? = some (.deferred (some [])) → Q .normal { a with defers := { target := .collected D, args := #[] } :: a.defers } W) :
    (Code.rangeFunc g #[28, 29] assign body).wp Try.prog Q a W0 := by
  have hG0 : ∀ j, W0.heap.size ≤ j → G j = 0 := hv.new
  refine (wpIn_wide (n := 6)).1 ?_
  refine wpIn_rangeFunc_ownH (F := Fence.wide) rfl (by decide) (gf := 63) (lb := #[.pointer (some ⟨Bs, 0, none⟩)]) hg trivial (enters_of Try.func63 (by kernel_rfl) rfl)
    (back_seq G W0.heap.size Bs sv zs hz W0 hBs hGs (Nat.le_refl _) hc hS) (fun h k => h.trans k) ?kb (Below.refl _ _) (fun _ => rfl)
    (fun pre W => UI W0 W vb G W0.heap.size (m.restAll (pre.map fun x => x.2.1.out))) (fun _ _ _ => False)
    (UI.own W0 vb G W0.heap.size hG0 (Nat.le_refl _) (fun pre : List (El zs) => m.restAll (pre.map fun x => x.2.1.out))) (fun _ _ _ _ _ hs _ _ => hs)
    ⟨hv, Kp.refl _ _ _, rfl, rfl, rfl, Nat.le_refl _⟩
    (fun x a' W => ∃ Bx, W.heap[Bx]? = some (bobj x.2.1) ∧ a' = actE a x Bx) ?ax ?assign ?body ?done ?stop
  case kb =>
    intro W l o o' hl h1 h2 h3 k hk _ _
    exact World.putObj_heap_other (by omega)
  case ax =>
    rintro x a' s A A' row ⟨Bx, h1, h2⟩ hg' hr
    refine ⟨Bx, (hg'.block Bx (lt_at h1) (fun e => ?_)).trans h1, h2⟩
    obtain ⟨_, o, ho, hcell⟩ := hr Bx e.symm
    rw [h1] at ho
    cases ho
    cases hcell
  case assign =>
    intro l pre x W K hI hK
    rw [tmE_eq a x]
    refine hassign l x W K (hK _ _ ((KeepsOthers.alloc _ _).from _) (fun k hk _ _ => ?_) ⟨hI.vars.below ((Below.refl _ _).alloc (Nat.le_refl _) _), fun k hk h2 h6 => ?_, hI.os, hI.tape, hI.output, by have := hI.size; simp; omega⟩ ⟨W.heap.size, alloc_at W _, rfl⟩)
    · exact Below.heap_alloc _ _ _ (by have := hI.size; omega)
    · exact (Below.heap_alloc _ _ _ (by have := hI.size; omega)).trans (hI.kp k hk h2 h6)
  case body =>
    rintro l pre x a' W hl hr hI ⟨Bx, hx, rfl⟩ hlt
    refine wpIn_mono (hbody l x Bx _ W hI hx) ?_
    rintro e a3 W3 ⟨rfl, h1, h2⟩
    refine ⟨⟨h2.size, fun k o hk ho _ => ?_⟩, fun k hk n2 n6 => h2.block k (by have := hI.size; omega) n2 n6, ⟨?_, fun k hk n2 n6 => (h2.block k (by have := hI.size; omega) n2 n6).trans (hI.kp k hk n2 n6), h2.os.trans hI.os, h2.tape.trans hI.tape, h2.output.trans hI.output, Nat.le_trans hI.size h2.size⟩⟩
    · have hz0 := hG0 k hk
      exact (h2.block k (lt_at ho) (by omega) (by omega)).trans ho
    · rw [List.map_append, List.map_cons, List.map_nil, Vs.restAll_snoc]
      exact h1
  case done =>
    intro D xs W hD hxs hI hk
    refine hdone D W hD ?_ hk
    have e : xs.map (fun x => x.2.1.out) = (zs.map Bd.out).reverse := by
      rw [← List.map_reverse, ← hxs, List.map_map]
      rfl
    rw [← e]
    exact hI
  case stop =>
    rintro D c pre W _ _ h _
    exact h.elim
end Go.Proofs.Ytgkblfegjmeolaa
