/- An argument that reads as a slice of acts. -/
import Derived.Test.YtgkblfegjmeolaaVaUK
import Derived.Deep.SlicePairs
import Derived.ProofKit
import Derived.OpenShut
import Derived.Lib.SmallJoins
namespace Go.Proofs.Ytgkblfegjmeolaa
open Go.ChangeShapes Go.WideShapes Go.ChangeAt Go.RowKit Go.Lib Go.Shelf
theorem cells_int : Try.prog.cellsOf 3 = 1 := by kernel_rfl
theorem cells_word : Try.prog.cellsOf 28 = 2 := by kernel_rfl
theorem cells_act : Try.prog.cellsOf 41 = 5 := by kernel_rfl
set_option maxRecDepth 100000 in
/-- Five cells that read as an act are five numbers. -/
theorem act_of {H : Type} {enc : TypeId × Value → H} {W : World} {base : Nat} {sp : Nat → Bool} {held : Bool} {n : Nat} {cs : List Value} {x : DataW H × List MemPlace} (hl : cs.length = 5) (h : DataW.trod enc Try.prog W base sp held n 41 cs = some x) :
    ∃ a : AW, cs = [.int .i64 a.kind, .int .i64 a.n, .int .i64 a.k, .int .i64 a.w.1, .int .i64 a.w.2] := by
  obtain ⟨xs, k, _, _, _, hxl, hf⟩ := DataW.trod_struct Try.underlying41 h
  match xs, hxl, cs, hl with
  | [y0, y1, y2, y3], _, [v0, v1, v2, v3, v4], _ =>
    have g0 := hf 0 _ rfl
    have g1 := hf 1 _ rfl
    have g2 := hf 2 _ rfl
    have g3 := hf 3 _ rfl
    simp [cells_int, cells_word] at g0 g1 g2 g3
    obtain ⟨a0, e0, _⟩ := DataW.trod_int Try.underlying3 g0
    obtain ⟨a1, e1, _⟩ := DataW.trod_int Try.underlying3 g1
    obtain ⟨a2, e2, _⟩ := DataW.trod_int Try.underlying3 g2
    obtain ⟨zs, k2, _, _, _, hzl, hz⟩ := DataW.trod_struct Try.underlying28 g3
    match zs, hzl with
    | [z0, z1], _ =>
      have g4 := hz 0 _ rfl
      have g5 := hz 1 _ rfl
      simp [cells_int] at g4 g5
      obtain ⟨a3, e3, _⟩ := DataW.trod_int Try.underlying3 g4
      obtain ⟨a4, e4, _⟩ := DataW.trod_int Try.underlying3 g5
      simp at e0 e1 e2 e3 e4
      subst e0 e1 e2 e3 e4
      exact ⟨⟨a0, a1, a2, (a3, a4)⟩, rfl⟩
set_option maxRecDepth 100000 in
theorem sla_of {H : Type} {enc : TypeId × Value → H} {W : World} {base : Nat} {v : Value} {d : DataW H} {ps : List MemPlace} (hok : Value.okWide Try.prog W .any base 38 v)
    (h : DataW.Trod enc Try.prog W 0 (fun _ => true) true 38 v d ps) : ∃ l, SlA W v l := by
  obtain ⟨a0, len, cap, rfl⟩ := okWide_slice Try.underlying38 hok
  obtain ⟨fuel, hf⟩ := h
  rcases Deep.open_slice Try.underlying38 hf with ⟨hcs, _⟩ | ⟨a, len', cap', m, n, D, Pl, hcs, _, hl, _, hmm, _, hcell⟩
  · simp [Value.cells] at hcs
    obtain ⟨rfl, rfl, rfl⟩ := hcs
    exact ⟨[], none, 0, rfl, fun i x hx => by simp at hx⟩
  · simp [Value.cells] at hcs
    obtain ⟨rfl, rfl, rfl⟩ := hcs
    have hlm : len ≤ m := by rw [hmm]; split <;> omega
    have key : ∀ i, i < m → ∃ x : AW, W.cell? ((a.add (i * 5)).add 0) = some (.int .i64 x.kind) ∧ W.cell? ((a.add (i * 5)).add 1) = some (.int .i64 x.n) ∧ W.cell? ((a.add (i * 5)).add 2) = some (.int .i64 x.k) ∧ W.cell? ((a.add (i * 5)).add 3) = some (.int .i64 x.w.1) ∧ W.cell? ((a.add (i * 5)).add 4) = some (.int .i64 x.w.2) := by
      intro i hi
      obtain ⟨cs', h1, h2⟩ := hcell i hi
      rw [cells_act] at h1
      obtain ⟨_, hlen, hc⟩ := World.cells?_some h1
      obtain ⟨x, rfl⟩ := act_of hlen h2
      exact ⟨x, (hc 0 (by decide)).trans rfl, (hc 1 (by decide)).trans rfl, (hc 2 (by decide)).trans rfl, (hc 3 (by decide)).trans rfl, (hc 4 (by decide)).trans rfl⟩
    have : Inhabited AW := ⟨⟨0, 0, 0, (0, 0)⟩⟩
    obtain ⟨q, hq⟩ := Deep.choose_lt key
    refine ⟨(List.range len).map q, some a, cap, by simp, fun i x hx => ?_⟩
    have hi := (List.getElem?_eq_some_iff.1 hx).1
    simp only [List.length_map, List.length_range] at hi
    rw [List.getElem?_map, List.getElem?_range hi] at hx
    cases Option.some.inj hx
    obtain ⟨c0, c1, c2, c3, c4⟩ := hq i (by omega)
    obtain ⟨b, off, spot⟩ := a
    have hspot : spot = none := by simpa [Addr.add] using World.cell?_spot (hq 0 (by omega)).1
    subst hspot
    simp only [Go.WideShapes.add_plain] at c0 c1 c2 c3 c4
    exact ⟨b, off, rfl, World.block_lt_of_cell? _ _ c0, c0, c1, c2, c3, c4⟩
end Go.Proofs.Ytgkblfegjmeolaa
