/- The contracts of Cons, Vec, Text and Code on a heap that stands. -/
import Derived.Test.YtbbopdkbokbafaaGreatDoorHpMake2
namespace Go.Proofs.YtbbopdkbokbafaaGreatDoor
open Go.RowKit Go.Lib
theorem ite_one {p : Prop} [Decidable p] (h : (if p then 1 else 0 : Nat) = 1) : p := by
  by_cases hp : p
  · exact hp
  · rw [if_neg hp] at h; cases h
/-- What add does of an object on a heap. -/
def AddsTo (hb : Nat) (G : Nat → Nat) (m m' : Hp) (o : Ob) (r : Wd) (er : Int) : Prop :=
  ∀ (W : World) (Gx : Nat → Nat) (x : Value), HeapAt W hb G m → ObAt W Gx 1 x o → (∀ k, k < W.heap.size → Gx k = 1 → G k = 0) →
    Calls Tryz.prog 101 #[hptr hb, x] W fun e w' => e = .returned (.tuple #[wv r, .int .i64 er]) ∧ Keeps G W w' ∧
      ∃ G', HeapAt w' hb G' m' ∧ ∀ k, k < W.heap.size → (G k = 0 ∧ Gx k ≠ 1 → G' k = 0) ∧ (G k ≠ 0 → G' k ≠ 0)
theorem adds_new {hb : Nat} {G : Nat → Nat} {m : Hp} {o : Ob} (hf : m.free = []) (hl : m.obs.length < m.lim) (hs : total m.obs + o.size ≤ 1048576) : AddsTo hb G m (m.addNew o) o (o.kind, m.obs.length) 0 := by
  intro W Gx x h hx hd
  refine (add_new h hf hx hd hl hs).mono ?_
  rintro e w' ⟨he, hk, G', h2, h3⟩
  exact ⟨he, hk, G', h2, fun k hk => ⟨(h3 k hk).2, fun hz e => hz ((h3 k hk).1 e).1⟩⟩
theorem adds_full {hb : Nat} {G : Nat → Nat} {m : Hp} {o : Ob} (hf : m.obs.length - m.free.length = m.lim) : AddsTo hb G m m o (0, 0) 7 := by
  intro W Gx x h hx hd
  refine (add_full_any h x hf).mono ?_
  rintro e w' ⟨he, hb2⟩
  exact ⟨he, Keeps.of_below hb2, G, h.below hb2, fun k hk => ⟨fun h => h.1, fun h => h⟩⟩
theorem adds_big {hb : Nat} {G : Nat → Nat} {m : Hp} {o : Ob} (hf : m.obs.length - m.free.length ≠ m.lim) (hs : o.size ≤ 1048576) (hbig : 1048576 < total m.obs + o.size) : AddsTo hb G m m o (0, 0) 7 := by
  intro W Gx x h hx hd
  refine (add_big_any h hx hf hs hbig).mono ?_
  rintro e w' ⟨he, hb2⟩
  exact ⟨he, Keeps.of_below hb2, G, h.below hb2, fun k hk => ⟨fun h => h.1, fun h => h⟩⟩
/-- What a maker leaves, its result's cells written. -/
theorem made {w W1 w3 w' : World} {hb rb : Nat} {G Gx : Nat → Nat} {m' : Hp} {u v : Value} (hnew : ∀ k, w.heap.size ≤ k → G k = 0) (h1 : Below w.heap.size w W1)
    (h2 : Keeps G W1 w3 ∧ ∃ G', HeapAt w3 hb G' m' ∧ ∀ k, k < W1.heap.size → (G k = 0 ∧ Gx k ≠ 1 → G' k = 0) ∧ (G k ≠ 0 → G' k ≠ 0))
    (hgx : ∀ k, Gx k = 1 → w.heap.size ≤ k) (hr : w.heap.size ≤ rb) (hr2 : rb < W1.heap.size) (hr3 : Gx rb ≠ 1) (hw : w' = (w3.setCell ⟨rb, 0, none⟩ u).setCell ⟨rb, 1, none⟩ v) : Went w w' hb G m' := by
  obtain ⟨k1, G', k2, k3⟩ := h2
  have hof : ∀ k, k ≠ rb → w'.heap[k]? = w3.heap[k]? := fun k hk => by rw [hw, setCell_off _ hk, setCell_off _ hk]
  have hz : w'.heap.size = w3.heap.size := by rw [hw]; simp [World.setCell]
  have hos : w'.os = w3.os ∧ w'.tape = w3.tape ∧ w'.output = w3.output := by rw [hw]; exact ⟨rfl, rfl, rfl⟩
  have hs1 := h1.size
  have hs2 := k1.size
  refine ⟨⟨hos.1.trans (k1.os.trans h1.os), hos.2.1.trans (k1.tape.trans h1.tape), hos.2.2.trans (k1.output.trans h1.output), by omega, fun k hk hz => ?_⟩, G', k2.keep (fun k hk hz => hof k ?_), fun k hk => ?_⟩
  · rw [hof k (by omega), k1.block k (by omega) hz, h1.block k hk]
  · intro e; subst e; exact hz ((k3 _ hr2).1 ⟨hnew _ hr, hr3⟩)
  · have := k3 k (by omega)
    exact ⟨fun e => by
      by_cases hz : G k = 0
      · exact hz
      · exact absurd e (this.2 hz), fun e => this.1 ⟨e, fun e2 => by have := hgx k e2; omega⟩⟩
theorem cons_any {w : World} {hb : Nat} {G : Nat → Nat} {m m' : Hp} (h : HeapAt w hb G m) {a d r : Wd} {er : Int} (ha : AddsTo hb G m m' (.pair a d) r er) :
    Calls Tryz.prog 87 #[hptr hb, wv a, wv d] w fun e w' => e = .returned (.tuple #[wv r, .int .i64 er]) ∧ Went w w' hb G m' := by
  have hb3 : Below w.heap.size w (((w.alloc (.cells #[.int .i64 a.1, .int .i64 a.2] 28)).alloc (.cells #[.int .i64 d.1, .int .i64 d.2] 28)).alloc (.cells #[.int .i64 0, .int .i64 0] 28)) :=
    (((Below.refl _ _).alloc (Nat.le_refl _) _).alloc (by simp) _).alloc (by simp; omega) _
  have hsz : (((w.alloc (.cells #[.int .i64 a.1, .int .i64 a.2] 28)).alloc (.cells #[.int .i64 d.1, .int .i64 d.2] 28)).alloc (.cells #[.int .i64 0, .int .i64 0] 28)).heap.size = w.heap.size + 1 + 1 + 1 := by simp
  have hat : (((w.alloc (.cells #[.int .i64 a.1, .int .i64 a.2] 28)).alloc (.cells #[.int .i64 d.1, .int .i64 d.2] 28)).alloc (.cells #[.int .i64 0, .int .i64 0] 28)).heap[w.heap.size + 1 + 1]? = some (.cells #[.int .i64 0, .int .i64 0] 28 (0, 0)) := by
    have := alloc_at ((w.alloc (.cells #[.int .i64 a.1, .int .i64 a.2] 28)).alloc (.cells #[.int .i64 d.1, .int .i64 d.2] 28)) (.cells #[.int .i64 0, .int .i64 0] 28)
    rw [show ((w.alloc (.cells #[.int .i64 a.1, .int .i64 a.2] 28)).alloc (.cells #[.int .i64 d.1, .int .i64 d.2] 28)).heap.size = w.heap.size + 1 + 1 from by simp] at this
    exact this
  have hwalk := cons_walk hb er a d r (fun w3 => Keeps G ((((w.alloc (.cells #[.int .i64 a.1, .int .i64 a.2] 28)).alloc (.cells #[.int .i64 d.1, .int .i64 d.2] 28)).alloc (.cells #[.int .i64 0, .int .i64 0] 28)).alloc (.cells #[.int .i64 a.1, .int .i64 a.2, .int .i64 d.1, .int .i64 d.2] 99)) w3 ∧ ∃ G', HeapAt w3 hb G' m' ∧
      ∀ k, k < ((((w.alloc (.cells #[.int .i64 a.1, .int .i64 a.2] 28)).alloc (.cells #[.int .i64 d.1, .int .i64 d.2] 28)).alloc (.cells #[.int .i64 0, .int .i64 0] 28)).alloc (.cells #[.int .i64 a.1, .int .i64 a.2, .int .i64 d.1, .int .i64 d.2] 99)).heap.size →
        (G k = 0 ∧ (fun k => if k = w.heap.size + 1 + 1 + 1 then 1 else 0) k ≠ 1 → G' k = 0) ∧ (G k ≠ 0 → G' k ≠ 0)) w h.valid
  generalize ((w.alloc (.cells #[.int .i64 a.1, .int .i64 a.2] 28)).alloc (.cells #[.int .i64 d.1, .int .i64 d.2] 28)).alloc (.cells #[.int .i64 0, .int .i64 0] 28) = W0 at hb3 hsz hat hwalk
  have hbl := hb3.alloc (by omega) (.cells #[.int .i64 a.1, .int .i64 a.2, .int .i64 d.1, .int .i64 d.2] 99)
  refine (hwalk ?_).mono ?_
  · refine (ha _ (fun k => if k = w.heap.size + 1 + 1 + 1 then 1 else 0) _ (h.below hbl) ⟨_, rfl, if_pos rfl, by rw [← hsz]; exact alloc_at W0 _⟩ (fun k hk e => ?_)).mono ?_
    · have e2 := ite_one e
      exact h.new k (by omega)
    · rintro e w3 ⟨he, hk, hrest⟩
      refine ⟨he, ?_, hk, hrest⟩
      have hlt : w.heap.size + 1 + 1 < (W0.alloc (.cells #[.int .i64 a.1, .int .i64 a.2, .int .i64 d.1, .int .i64 d.2] 99)).heap.size := by rw [show (W0.alloc (.cells #[.int .i64 a.1, .int .i64 a.2, .int .i64 d.1, .int .i64 d.2] 99)).heap.size = W0.heap.size + 1 from by simp]; omega
      rw [hk.block _ hlt (h.new _ (by omega)), Below.heap_alloc _ _ _ (by omega)]
      exact hat
  · rintro e w' ⟨he, w3, hP, hw⟩
    refine ⟨he, made (rb := w.heap.size + 1 + 1) h.new hbl hP (fun k e => ?_) (by omega) (by simp; omega) (by simp) hw⟩
    have e2 := ite_one e
    omega
theorem vec_any {w : World} {hb : Nat} {G : Nat → Nat} {m m' : Hp} (h : HeapAt w hb G m) {v : Value} {l : List Wd} {r : Wd} {er : Int} (hv : Src w 2 v l.length (wcells l)) (hvb : ∀ k, v.ownBlock = some k → k < w.heap.size) (hn : l.length ≤ 65536)
    (ha : AddsTo hb G m m' (.vec l) r er) :
    Calls Tryz.prog 219 #[hptr hb, v] w fun e w' => e = .returned (.tuple #[wv r, .int .i64 er]) ∧ Went w w' hb G m' := by
  obtain ⟨al, cl, rfl⟩ := hv.slice
  refine (vec_walk hb er r al l.length cl (wcells l) (fun w3 => ∃ (W1 : World) (Gx : Nat → Nat), Below w.heap.size w W1 ∧ (∀ k, Gx k = 1 → w.heap.size < k) ∧ w.heap.size < W1.heap.size ∧ Keeps G W1 w3 ∧ ∃ G', HeapAt w3 hb G' m' ∧
      ∀ k, k < W1.heap.size → (G k = 0 ∧ Gx k ≠ 1 → G' k = 0) ∧ (G k ≠ 0 → G' k ≠ 0)) w hn h.valid (fun W hW => copy_word _ _ _ W (hv.below hW hvb) (wcells_one l) (by omega)) ?_).mono ?_
  · intro W a c hW k0 ho hz
    have hbl := hW.alloc (by omega) (.cells #[.slice a l.length c] 214)
    refine (ha (W.alloc (.cells #[.slice a l.length c] 214)) (fun k => if w.heap.size < k ∧ k ≤ W.heap.size then 1 else 0) _ (h.below hbl) ⟨_, _, rfl, if_pos (by omega), alloc_at W _, ho.alloc _ |> own_base (B' := 0) (hB := Nat.zero_le _), fun k hk => ?_⟩ (fun k hk e => ?_)).mono ?_
    · have h5 := ho.lt k hk
      simp only [if_neg (show ¬ k = W.heap.size by omega)]
      exact if_pos (by omega)
    · have e2 := ite_one e
      exact h.new k (by omega)
    · rintro e w3 ⟨he, hk, hrest⟩
      refine ⟨he, ?_, _, _, hbl, fun k e => ?_, by simp; omega, hk, hrest⟩
      · rw [hk.block _ (by simp; omega) (h.new _ (by omega)), Below.heap_alloc _ _ _ (by omega)]
        exact k0
      · have e2 := ite_one e
        omega
  · rintro e w' ⟨he, w3, ⟨W1, Gx, q1, q2, q3, q4⟩, hw⟩
    exact ⟨he, made (rb := w.heap.size) h.new q1 q4 (fun k e => by have := q2 k e; omega) (by omega) q3 (fun e => by have := q2 _ e; omega) hw⟩
theorem text_any {w : World} {hb : Nat} {G : Nat → Nat} {m m' : Hp} (h : HeapAt w hb G m) {s : ByteArray} {r : Wd} {er : Int} (hT : Tabs w) (hs : s.size ≤ 281474976710656) (hv : validD s.data.toList = true) (hn : lenD s.data.toList ≤ 65536)
    (ha : AddsTo hb G m m' (.text s (lenD s.data.toList)) r er) :
    Calls Tryz.prog 50 #[hptr hb, .string s] w fun e w' => e = .returned (.tuple #[wv r, .int .i64 er]) ∧ Went w w' hb G m' := by
  refine (text_walk hb (lenD s.data.toList) er r s (fun w3 => ∃ (W1 : World) (Gx : Nat → Nat), Below w.heap.size w W1 ∧ (∀ k, Gx k = 1 → w.heap.size < k) ∧ w.heap.size < W1.heap.size ∧ Keeps G W1 w3 ∧ ∃ G', HeapAt w3 hb G' m' ∧
      ∀ k, k < W1.heap.size → (G k = 0 ∧ Gx k ≠ 1 → G' k = 0) ∧ (G k ≠ 0 → G' k ≠ 0)) w hn h.valid (fun W hW => ?_) (fun W hW => rlen_any s W (by omega) (hT.below hW hT.size)) (fun W => clone_any s W hs) ?_).mono ?_
  · have := rvalid_any s W (by omega) (hT.below hW hT.size)
    rw [hv] at this
    exact this
  · intro W hW k0 hz
    have hbl := hW.alloc (by omega) (.cells #[.string s, .int .i64 (lenD s.data.toList)] 143)
    refine (ha (W.alloc (.cells #[.string s, .int .i64 (lenD s.data.toList)] 143)) (fun k => if k = W.heap.size then 1 else 0) _ (h.below hbl) ⟨_, rfl, if_pos rfl, alloc_at W _⟩ (fun k hk e => ?_)).mono ?_
    · have e2 := ite_one e
      exact h.new k (by omega)
    · rintro e w3 ⟨he, hk, hrest⟩
      refine ⟨he, ?_, _, _, hbl, fun k e => ?_, by simp; omega, hk, hrest⟩
      · rw [hk.block _ (by simp; omega) (h.new _ (by omega)), Below.heap_alloc _ _ _ (by omega)]
        exact k0
      · have e2 := ite_one e
        omega
  · rintro e w' ⟨he, w3, ⟨W1, Gx, q1, q2, q3, q4⟩, hw⟩
    exact ⟨he, made (rb := w.heap.size) h.new q1 q4 (fun k e => by have := q2 k e; omega) (by omega) q3 (fun e => by have := q2 _ e; omega) hw⟩
theorem text_bad_any {w : World} {hb : Nat} {G : Nat → Nat} {m : Hp} (h : HeapAt w hb G m) {s : ByteArray} (hT : Tabs w) (hs : s.size ≤ 281474976710656) (hv : validD s.data.toList = false) :
    Calls Tryz.prog 50 #[hptr hb, .string s] w fun e w' => e = .returned (.tuple #[wv (0, 0), .int .i64 5]) ∧ Below w.heap.size w w' :=
  text_bad hb s w h.valid fun W hW => by
    have := rvalid_any s W (by omega) (hT.below hW hT.size)
    rw [hv] at this
    exact this
def bcells (bs : List UInt8) : List Value := bs.map fun x => Value.int .u8 x.toNat
theorem bcells_one (bs : List UInt8) : ∀ u ∈ bcells bs, u.oneCell' = true := by
  intro u hu
  obtain ⟨x, _, rfl⟩ := List.mem_map.1 hu
  rfl
end Go.Proofs.YtbbopdkbokbafaaGreatDoor
