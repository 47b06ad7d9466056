/- A heap and a table beside each other on one footprint; what a call on either leaves; the reader's own blocks. -/
import Derived.Test.YtbbopdkbokbafaaGreatDoorRdFine
import Derived.Test.YtbbopdkbokbafaaGreatDoorNmNew2
namespace Go.Proofs.YtbbopdkbokbafaaGreatDoor
open Go.RowKit Go.Lib
/-- A heap without a free number below and a table with symbols lie beside each other since the world w0; the blocks that they may write are those that F does not call 0. -/
structure HT (w0 w : World) (hb tb : Nat) (F : Nat → Nat) (h : Hp) (t : Tb) : Prop where
  below : Below w0.heap.size w0 w
  low : ∀ k, k < w0.heap.size → F k = 0
  free : h.free = []
  many : 0 < t.syms.length
  lies : ∃ Gh Gt, HeapAt w hb Gh h ∧ TableAt w tb Gt t ∧ (∀ k, Gh k ≠ 0 → Gt k = 0) ∧ ∀ k, F k = 0 ↔ (Gh k = 0 ∧ Gt k = 0)
theorem HT.new {w0 w : World} {hb tb : Nat} {F : Nat → Nat} {h : Hp} {t : Tb} (H : HT w0 w hb tb F h t) : ∀ k, w.heap.size ≤ k → F k = 0 := by
  obtain ⟨Gh, Gt, h1, h2, _, h4⟩ := H.lies
  exact fun k hk => (h4 k).2 ⟨h1.new k hk, h2.new k hk⟩
/-- What a call leaves. -/
structure WentHT (w0 w w' : World) (hb tb : Nat) (F : Nat → Nat) (h' : Hp) (t' : Tb) : Prop where
  keeps : Keeps F w w'
  ht : ∃ F', HT w0 w' hb tb F' h' t' ∧ ∀ k, k < w.heap.size → (F' k = 0 ↔ F k = 0)
theorem HT.keep {w0 w w' : World} {hb tb : Nat} {F : Nat → Nat} {h : Hp} {t : Tb} (H : HT w0 w hb tb F h t) (hB : Below w0.heap.size w0 w') (hb' : ∀ k, k < w.heap.size → F k ≠ 0 → w'.heap[k]? = w.heap[k]?) : HT w0 w' hb tb F h t := by
  obtain ⟨Gh, Gt, h1, h2, h3, h4⟩ := H.lies
  refine ⟨hB, H.low, H.free, H.many, Gh, Gt, h1.keep fun k hk hz => hb' k hk fun e => hz ((h4 k).1 e).1, h2.keep fun k hk hz => hb' k hk fun e => hz ((h4 k).1 e).2, h3, h4⟩
theorem HT.junk {w0 w w' : World} {hb tb : Nat} {F : Nat → Nat} {h : Hp} {t : Tb} (H : HT w0 w hb tb F h t) (hw : Below w.heap.size w w') : HT w0 w' hb tb F h t :=
  H.keep (H.below.trans (hw.mono H.below.size)) fun k hk _ => hw.block k hk
theorem HT.tabs {w0 w : World} {hb tb : Nat} {F : Nat → Nat} {h : Hp} {t : Tb} (H : HT w0 w hb tb F h t) (hT : Tabs w0) : Tabs w := hT.below H.below hT.size
theorem HT.after_keeps {w0 w w' : World} {hb tb : Nat} {F G : Nat → Nat} {h : Hp} {t : Tb} (H : HT w0 w hb tb F h t) (hk : Keeps G w w') (hg : ∀ k, k < w0.heap.size → G k = 0) : Below w0.heap.size w0 w' :=
  H.below.trans (hk.below H.below.size hg)
/-- A call on the heap. -/
theorem HT.heap {w0 w : World} {hb tb : Nat} {F : Nat → Nat} {h : Hp} {t : Tb} (H : HT w0 w hb tb F h t) :
    ∃ Gh, HeapAt w hb Gh h ∧ (∀ k, F k = 0 → Gh k = 0) ∧ ∀ w' h', h'.free = [] → Went w w' hb Gh h' → WentHT w0 w w' hb tb F h' t := by
  obtain ⟨Gh, Gt, h1, h2, h3, h4⟩ := H.lies
  refine ⟨Gh, h1, fun k hk => ((h4 k).1 hk).1, fun w' h' hf hw => ?_⟩
  obtain ⟨hk, Gh', g1, g2⟩ := hw
  have hk2 : Keeps F w w' := hk.mono fun k _ e => ((h4 k).1 e).1
  have hdis : ∀ k, Gh' k ≠ 0 → Gt k = 0 := fun k hz => by
    by_cases hlt : k < w.heap.size
    · exact h3 k fun e => hz ((g2 k hlt).2 e)
    · exact h2.new k (by omega)
  refine ⟨hk2, fun k => if Gh' k = 0 ∧ Gt k = 0 then 0 else 1, ⟨H.after_keeps hk2 H.low, fun k hlt => ?_, hf, H.many, Gh', Gt, g1, h2.keep fun k hlt hz => ?_, hdis, fun k => ?_⟩, fun k hlt => ?_⟩
  · have h5 := (h4 k).1 (H.low k hlt)
    exact if_pos ⟨(g2 k (Nat.lt_of_lt_of_le hlt H.below.size)).2 h5.1, h5.2⟩
  · refine hk.block k hlt ?_
    by_cases e : Gh k = 0
    · exact e
    · exact absurd (h3 k e) hz
  · by_cases e : Gh' k = 0 ∧ Gt k = 0
    · rw [if_pos e]; exact ⟨fun _ => e, fun _ => rfl⟩
    · rw [if_neg e]; exact ⟨fun x => (by cases x), fun x => absurd x e⟩
  · rw [h4 k]
    by_cases e : Gh' k = 0 ∧ Gt k = 0
    · simp only [if_pos e]
      exact ⟨fun _ => ⟨(g2 k hlt).1 e.1, e.2⟩, fun _ => trivial⟩
    · simp only [if_neg e]
      exact ⟨fun x => (by cases x), fun x => absurd ⟨(g2 k hlt).2 x.1, x.2⟩ e⟩
/-- A call on the table. -/
theorem HT.table {w0 w : World} {hb tb : Nat} {F : Nat → Nat} {h : Hp} {t : Tb} (H : HT w0 w hb tb F h t) :
    ∃ Gt, TableAt w tb Gt t ∧ (∀ k, F k = 0 → Gt k = 0) ∧ ∀ w' t', 0 < t'.syms.length → WentT w w' tb Gt t' → WentHT w0 w w' hb tb F h t' := by
  obtain ⟨Gh, Gt, h1, h2, h3, h4⟩ := H.lies
  refine ⟨Gt, h2, fun k hk => ((h4 k).1 hk).2, fun w' t' hf hw => ?_⟩
  obtain ⟨hk, Gt', g1, g2⟩ := hw
  have hk2 : Keeps F w w' := hk.mono fun k _ e => ((h4 k).1 e).2
  have hdis : ∀ k, Gh k ≠ 0 → Gt' k = 0 := fun k hz => by
    by_cases hlt : k < w.heap.size
    · exact (g2 k hlt).2 (h3 k hz)
    · exact absurd (h1.new k (by omega)) hz
  refine ⟨hk2, fun k => if Gh k = 0 ∧ Gt' k = 0 then 0 else 1, ⟨H.after_keeps hk2 H.low, fun k hlt => ?_, H.free, hf, Gh, Gt', h1.keep fun k hlt hz => ?_, g1, hdis, fun k => ?_⟩, fun k hlt => ?_⟩
  · have h5 := (h4 k).1 (H.low k hlt)
    exact if_pos ⟨h5.1, (g2 k (Nat.lt_of_lt_of_le hlt H.below.size)).2 h5.2⟩
  · exact hk.block k hlt (h3 k hz)
  · by_cases e : Gh k = 0 ∧ Gt' k = 0
    · rw [if_pos e]; exact ⟨fun _ => e, fun _ => rfl⟩
    · rw [if_neg e]; exact ⟨fun x => (by cases x), fun x => absurd x e⟩
  · rw [h4 k]
    by_cases e : Gh k = 0 ∧ Gt' k = 0
    · simp only [if_pos e]
      exact ⟨fun _ => ⟨e.1, (g2 k hlt).1 e.2⟩, fun _ => trivial⟩
    · simp only [if_neg e]
      exact ⟨fun x => (by cases x), fun x => absurd ⟨x.1, (g2 k hlt).2 x.2⟩ e⟩
theorem make_free {m : Hp} (h : m.free = []) (o : Ob) : (m.make o).1.free = [] := by
  unfold Hp.make
  split
  · exact h
  · exact h
theorem make_adds {m : Hp} (hf : m.free = []) (hok : m.Ok) {o : Ob} (hs : o.size ≤ 1048576) {hb : Nat} {G : Nat → Nat} : AddsTo hb G m (m.make o).1 o (m.make o).2.1 (m.make o).2.2 := by
  unfold Hp.make
  by_cases h1 : m.obs.length = m.lim
  · rw [if_pos (.inl h1)]
    exact adds_full (by rw [hf]; exact h1)
  · by_cases h2 : 1048576 < total m.obs + o.size
    · rw [if_pos (.inr h2)]
      exact adds_big (by rw [hf]; exact h1) hs h2
    · rw [if_neg (by omega)]
      have := hok.len
      exact adds_new hf (by omega) (by omega)
section
variable {w0 w : World} {hb tb : Nat} {F : Nat → Nat} {h : Hp} {t : Tb}
theorem ht_cons (H : HT w0 w hb tb F h t) (a d : Wd) :
    Calls Tryz.prog 87 #[hptr hb, wv a, wv d] w fun e w' => e = .returned (.tuple #[wv (h.make (.pair a d)).2.1, .int .i64 (h.make (.pair a d)).2.2]) ∧ WentHT w0 w w' hb tb F (h.make (.pair a d)).1 t := by
  obtain ⟨Gh, h1, _, h3⟩ := H.heap
  refine (cons_any h1 (make_adds H.free h1.ok (Nat.zero_le _))).mono ?_
  rintro e w' ⟨rfl, hw⟩
  exact ⟨rfl, h3 _ _ (make_free H.free _) hw⟩
theorem ht_vec (H : HT w0 w hb tb F h t) {v : Value} {l : List Wd} (hv : Src w 2 v l.length (wcells l)) (hvb : ∀ k, v.ownBlock = some k → k < w.heap.size) (hn : l.length ≤ 65536) :
    Calls Tryz.prog 219 #[hptr hb, v] w fun e w' => e = .returned (.tuple #[wv (h.make (.vec l)).2.1, .int .i64 (h.make (.vec l)).2.2]) ∧ WentHT w0 w w' hb tb F (h.make (.vec l)).1 t := by
  obtain ⟨Gh, h1, _, h3⟩ := H.heap
  refine (vec_any h1 hv hvb hn (make_adds H.free h1.ok (by simp only [Ob.size]; omega))).mono ?_
  rintro e w' ⟨rfl, hw⟩
  exact ⟨rfl, h3 _ _ (make_free H.free _) hw⟩
theorem ht_text (H : HT w0 w hb tb F h t) (hT : Tabs w0) {s : ByteArray} (hs : s.size ≤ 281474976710656) (hv : validD s.data.toList = true) (hn : lenD s.data.toList ≤ 65536) :
    Calls Tryz.prog 50 #[hptr hb, .string s] w fun e w' => e = .returned (.tuple #[wv (h.make (.text s (lenD s.data.toList))).2.1, .int .i64 (h.make (.text s (lenD s.data.toList))).2.2]) ∧ WentHT w0 w w' hb tb F (h.make (.text s (lenD s.data.toList))).1 t := by
  obtain ⟨Gh, h1, _, h3⟩ := H.heap
  refine (text_any h1 (H.tabs hT) hs hv hn (make_adds H.free h1.ok (by simp only [Ob.size]; omega))).mono ?_
  rintro e w' ⟨rfl, hw⟩
  exact ⟨rfl, h3 _ _ (make_free H.free _) hw⟩
theorem intern_many (t : Tb) (h : 0 < t.syms.length) (s : ByteArray) : 0 < (t.intern s).2.2.syms.length := by
  unfold Tb.intern
  repeat' split
  all_goals first | exact h | (simp [Tb.add])
theorem ht_intern (H : HT w0 w hb tb F h t) (hT : Tabs w0) (s : ByteArray) (hs : s.size ≤ 281474976710656) :
    Calls Tryz.prog 58 #[hptr tb, .string s] w fun e w' => e = .returned (.tuple #[.int .i64 (t.intern s).1, .int .i64 (t.intern s).2.1]) ∧ WentHT w0 w w' hb tb F h (t.intern s).2.2 := by
  obtain ⟨Gt, h1, _, h3⟩ := H.table
  refine (intern_any h1 H.many s hs (H.tabs hT)).mono ?_
  rintro e w' ⟨rfl, hw⟩
  exact ⟨rfl, h3 _ _ (intern_many t H.many s) hw⟩
end
/-- The reader's blocks: its own, the heap's, the table's, the row of characters, the map of readers; the characters. -/
structure Rd where
  pb : Nat
  hb : Nat
  tb : Nat
  g : Nat
  cap : Nat
  rb : Nat
  L : List Int
abbrev Rd.tv (r : Rd) : Value := .slice (some ⟨r.g, 0, none⟩) r.L.length r.cap
/-- The map of readers as it lies. -/
def readersEs : Array MapEntry := #[
  { key := .int .i64 40, val := .func (.func 157) #[] #[], born := 0 },
  { key := .int .i64 91, val := .func (.func 158) #[] #[], born := 1 },
  { key := .int .i64 39, val := .func (.func 159) #[] #[], born := 2 },
  { key := .int .i64 96, val := .func (.func 160) #[] #[], born := 3 },
  { key := .int .i64 44, val := .func (.func 161) #[] #[], born := 4 },
  { key := .int .i64 35, val := .func (.func 162) #[] #[], born := 5 },
  { key := .int .i64 34, val := .func (.func 163) #[] #[], born := 6 },
  { key := .int .i64 63, val := .func (.func 164) #[] #[], born := 7 },
  { key := .int .i64 41, val := .func (.func 165) #[] #[], born := 8 },
  { key := .int .i64 93, val := .func (.func 165) #[] #[], born := 9 },
  { key := .int .i64 (-1), val := .func (.func 165) #[] #[], born := 10 }]
/-- What of the reader never turns: its characters, its map; where its own block lies. -/
structure RdFix (w0 w : World) (r : Rd) (F : Nat → Nat) : Prop where
  base : w0.heap.size ≤ r.pb
  pb : F r.pb = 0
  g : F r.g = 0
  gp : r.g ≠ r.pb
  row : ∃ cur, w.heap[r.g]? = some (.cells cur 3 (0, 0)) ∧ ∀ (i : Nat) x, r.L[i]? = some x → cur[i]? = some (.int .i64 x)
  rb : F r.rb = 0
  rp : r.rb ≠ r.pb
  map : w.heap[r.rb]? = some (.map readersEs 11)
  len : r.L.length ≤ 100000
  isz : r.L.all isZ = true
/-- The reader stands. -/
structure RdAt (w0 w : World) (r : Rd) (F : Nat → Nat) (s : Rs) : Prop where
  ht : HT w0 w r.hb r.tb F s.h s.t
  fix : RdFix w0 w r F
  own : w.heap[r.pb]? = some (.cells #[hptr r.hb, hptr r.tb, r.tv, .int .i64 s.pos, .int .i64 s.opn, .map (some r.rb)] 91 (0, 0))
  pos : s.pos ≤ r.L.length
  opn : s.opn ≤ 200
/-- What a call of the reader leaves. -/
structure WentR (w0 w w' : World) (r : Rd) (F : Nat → Nat) (s' : Rs) : Prop where
  keeps : Keeps (fun k => if k = r.pb then 1 else F k) w w'
  rd : ∃ F', RdAt w0 w' r F' s' ∧ ∀ k, k < w.heap.size → (F' k = 0 ↔ F k = 0)
/-- What it leaves where it panics. -/
structure BadR (w0 w w' : World) (r : Rd) (F : Nat → Nat) (s' : Rs) : Prop where
  keeps : Keeps (fun k => if k = r.pb then 1 else F k) w w'
  ht : ∃ F', HT w0 w' r.hb r.tb F' s'.h s'.t ∧ ∀ k, k < w.heap.size → (F' k = 0 ↔ F k = 0)
theorem foot_zero {F : Nat → Nat} {pb k : Nat} : (if k = pb then 1 else F k) = 0 ↔ k ≠ pb ∧ F k = 0 := by
  by_cases e : k = pb
  · rw [if_pos e]; exact ⟨fun h => (by cases h), fun h => absurd e h.1⟩
  · rw [if_neg e]; exact ⟨fun h => ⟨e, h⟩, fun h => h.2⟩
theorem RdFix.keep {w0 w w' : World} {r : Rd} {F F' : Nat → Nat} (h : RdFix w0 w r F) (hp : F' r.pb = 0) (hF : ∀ k, k < w.heap.size → F k = 0 → F' k = 0) (hb : ∀ k, k < w.heap.size → F k = 0 → k ≠ r.pb → w'.heap[k]? = w.heap[k]?) : RdFix w0 w' r F' := by
  obtain ⟨cur, h1, h2⟩ := h.row
  exact ⟨h.base, hp, hF _ (lt_at h1) h.g, h.gp, ⟨cur, (hb _ (lt_at h1) h.g h.gp).trans h1, h2⟩, hF _ (lt_at h.map) h.rb, h.rp, (hb _ (lt_at h.map) h.rb h.rp).trans h.map, h.len, h.isz⟩
section
variable {w0 w w' : World} {r : Rd} {F : Nat → Nat} {s : Rs}
theorem RdAt.lt (h : RdAt w0 w r F s) : r.pb < w.heap.size := lt_at h.own
theorem RdAt.junk (h : RdAt w0 w r F s) (hw : Below w.heap.size w w') : RdAt w0 w' r F s :=
  ⟨h.ht.junk hw, h.fix.keep h.fix.pb (fun _ _ e => e) fun k hk _ _ => hw.block k hk, (hw.block _ h.lt).trans h.own, h.pos, h.opn⟩
theorem WentR.refl (h : RdAt w0 w r F s) : WentR w0 w w r F s := ⟨Keeps.refl _ _, F, h, fun _ _ => Iff.rfl⟩
theorem WentR.of_below (h : RdAt w0 w r F s) (hw : Below w.heap.size w w') : WentR w0 w w' r F s := ⟨Keeps.of_below hw, F, h.junk hw, fun _ _ => Iff.rfl⟩
theorem WentR.bad (h : WentR w0 w w' r F s) : BadR w0 w w' r F s := by
  obtain ⟨hk, F', h1, h2⟩ := h
  exact ⟨hk, F', h1.ht, h2⟩
theorem foot_step {F F' : Nat → Nat} {pb n : Nat} (h : ∀ k, k < n → (F' k = 0 ↔ F k = 0)) : ∀ k, k < n → (if k = pb then 1 else F k) = 0 → (if k = pb then 1 else F' k) = 0 := by
  intro k hk e
  rw [foot_zero] at e ⊢
  exact ⟨e.1, (h k hk).2 e.2⟩
theorem WentR.trans {w1 w2 : World} {s1 s2 : Rs} (h : WentR w0 w w1 r F s1) (k : ∀ F1, RdAt w0 w1 r F1 s1 → WentR w0 w1 w2 r F1 s2) : WentR w0 w w2 r F s2 := by
  obtain ⟨hk, F1, h1, h2⟩ := h
  obtain ⟨kk, F2, k1, k2⟩ := k F1 h1
  exact ⟨hk.trans kk (foot_step h2), F2, k1, fun i hi => (k2 i (Nat.lt_of_lt_of_le hi hk.size)).trans (h2 i hi)⟩
theorem WentR.trans_bad {w1 w2 : World} {s1 s2 : Rs} (h : WentR w0 w w1 r F s1) (k : ∀ F1, RdAt w0 w1 r F1 s1 → BadR w0 w1 w2 r F1 s2) : BadR w0 w w2 r F s2 := by
  obtain ⟨hk, F1, h1, h2⟩ := h
  obtain ⟨kk, F2, k1, k2⟩ := k F1 h1
  exact ⟨hk.trans kk (foot_step h2), F2, k1, fun i hi => (k2 i (Nat.lt_of_lt_of_le hi hk.size)).trans (h2 i hi)⟩
theorem BadR.trans {w1 w2 : World} {s1 : Rs} (h : BadR w0 w w1 r F s1) (hb : Below w1.heap.size w1 w2) : BadR w0 w w2 r F s1 := by
  obtain ⟨hk, F1, h1, h2⟩ := h
  exact ⟨hk.trans (Keeps.of_below (G := fun k => if k = r.pb then 1 else F k) hb) (fun _ _ e => e), F1, h1.junk hb, h2⟩
/-- A call that leaves the heap and the table otherwise. -/
theorem RdAt.call {h' : Hp} {t' : Tb} (h : RdAt w0 w r F s) (hw : WentHT w0 w w' r.hb r.tb F h' t') : WentR w0 w w' r F { s with h := h', t := t' } := by
  obtain ⟨hk, F', h1, h2⟩ := hw
  have hpb : F' r.pb = 0 := (h2 _ h.lt).2 h.fix.pb
  refine ⟨hk.mono fun k _ e => (foot_zero.1 e).2, F', ⟨h1, h.fix.keep hpb (fun k hk e => (h2 k hk).2 e) fun k hk' e _ => hk.block k hk' e, (hk.block _ h.lt h.fix.pb).trans h.own, h.pos, h.opn⟩, h2⟩
theorem RdAt.set (h : RdAt w0 w r F s) (p o : Nat) (hp : p ≤ r.L.length) (ho : o ≤ 200) (hk : Keeps (fun k => if k = r.pb then 1 else F k) w w')
    (hw : w'.heap[r.pb]? = some (.cells #[hptr r.hb, hptr r.tb, r.tv, .int .i64 p, .int .i64 o, .map (some r.rb)] 91 (0, 0))) (hF : ∀ k, k < w.heap.size → F k ≠ 0 → w'.heap[k]? = w.heap[k]?) : WentR w0 w w' r F { s with pos := p, opn := o } := by
  refine ⟨hk, F, ⟨h.ht.keep (h.ht.after_keeps hk fun k hk2 => foot_zero.2 ⟨by have := h.fix.base; omega, h.ht.low k hk2⟩) hF, h.fix.keep h.fix.pb (fun _ _ e => e) fun k hk' e hne => hk.block k hk' (foot_zero.2 ⟨hne, e⟩), hw, hp, ho⟩, fun _ _ => Iff.rfl⟩
theorem RdAt.setPos (h : RdAt w0 w r F s) (p : Nat) (hp : p ≤ r.L.length) : WentR w0 w (w.setCell ⟨r.pb, 3, none⟩ (.int .i64 p)) r F { s with pos := p } := by
  refine h.set (s := s) p s.opn hp h.opn ((Keeps.refl _ _).setCell (fun _ => by simp) _) ?_ fun k hk e => setCell_off _ fun e2 => e (by rw [e2]; exact h.fix.pb)
  have := setCell_at (i := 3) h.own (.int .i64 p)
  simpa using this
theorem RdAt.setOpn (h : RdAt w0 w r F s) (o : Nat) (ho : o ≤ 200) : WentR w0 w (w.setCell ⟨r.pb, 4, none⟩ (.int .i64 o)) r F { s with opn := o } := by
  refine h.set (s := s) s.pos o h.pos ho ((Keeps.refl _ _).setCell (fun _ => by simp) _) ?_ fun k hk e => setCell_off _ fun e2 => e (by rw [e2]; exact h.fix.pb)
  have := setCell_at (i := 4) h.own (.int .i64 o)
  simpa using this
end
/-- What a move leaves: the reader elsewhere, the heap and the table as they were. -/
structure Mv (w0 w w' : World) (r : Rd) (F : Nat → Nat) (s' : Rs) : Prop where
  rd : RdAt w0 w' r F s'
  keeps : Keeps (fun k => if k = r.pb then 1 else F k) w w'
theorem Mv.refl {w0 w : World} {r : Rd} {F : Nat → Nat} {s : Rs} (h : RdAt w0 w r F s) : Mv w0 w w r F s := ⟨h, Keeps.refl _ _⟩
theorem Mv.trans {w0 w w1 w2 : World} {r : Rd} {F : Nat → Nat} {s1 s2 : Rs} (h : Mv w0 w w1 r F s1) (k : Mv w0 w1 w2 r F s2) : Mv w0 w w2 r F s2 := ⟨k.rd, h.keeps.trans k.keeps fun _ _ e => e⟩
theorem Mv.junk {w0 w w1 w2 : World} {r : Rd} {F : Nat → Nat} {s1 : Rs} (h : Mv w0 w w1 r F s1) (k : Below w1.heap.size w1 w2) : Mv w0 w w2 r F s1 := ⟨h.rd.junk k, h.keeps.trans (Keeps.of_below (G := fun k => if k = r.pb then 1 else F k) k) fun _ _ e => e⟩
theorem Mv.went {w0 w w1 : World} {r : Rd} {F : Nat → Nat} {s1 : Rs} (h : Mv w0 w w1 r F s1) : WentR w0 w w1 r F s1 := ⟨h.keeps, F, h.rd, fun _ _ => Iff.rfl⟩
theorem RdAt.mv {w0 w w' : World} {r : Rd} {F : Nat → Nat} {s : Rs} (h : RdAt w0 w r F s) (p o : Nat) (hp : p ≤ r.L.length) (ho : o ≤ 200) (hk : Keeps (fun k => if k = r.pb then 1 else F k) w w')
    (hw : w'.heap[r.pb]? = some (.cells #[hptr r.hb, hptr r.tb, r.tv, .int .i64 p, .int .i64 o, .map (some r.rb)] 91 (0, 0))) (hF : ∀ k, k < w.heap.size → F k ≠ 0 → w'.heap[k]? = w.heap[k]?) : Mv w0 w w' r F { s with pos := p, opn := o } :=
  ⟨⟨h.ht.keep (h.ht.after_keeps hk fun k hk2 => foot_zero.2 ⟨by have := h.fix.base; omega, h.ht.low k hk2⟩) hF, h.fix.keep h.fix.pb (fun _ _ e => e) fun k hk' e hne => hk.block k hk' (foot_zero.2 ⟨hne, e⟩), hw, hp, ho⟩, hk⟩
theorem RdAt.mvPos {w0 w : World} {r : Rd} {F : Nat → Nat} {s : Rs} (h : RdAt w0 w r F s) (p : Nat) (hp : p ≤ r.L.length) : Mv w0 w (w.setCell ⟨r.pb, 3, none⟩ (.int .i64 p)) r F { s with pos := p } := by
  refine h.mv (s := s) p s.opn hp h.opn ((Keeps.refl _ _).setCell (fun _ => by simp) _) ?_ fun k hk e => setCell_off _ fun e2 => e (by rw [e2]; exact h.fix.pb)
  have := setCell_at (i := 3) h.own (.int .i64 p)
  simpa using this
theorem RdAt.mvOpn {w0 w : World} {r : Rd} {F : Nat → Nat} {s : Rs} (h : RdAt w0 w r F s) (o : Nat) (ho : o ≤ 200) : Mv w0 w (w.setCell ⟨r.pb, 4, none⟩ (.int .i64 o)) r F { s with opn := o } := by
  refine h.mv (s := s) s.pos o h.pos ho ((Keeps.refl _ _).setCell (fun _ => by simp) _) ?_ fun k hk e => setCell_off _ fun e2 => e (by rw [e2]; exact h.fix.pb)
  have := setCell_at (i := 4) h.own (.int .i64 o)
  simpa using this
/-- A fault as a panic's value. -/
abbrev faultV (er a : Int) : Value := .iface 31 (.agg #[.int .i64 er, .int .i64 a])
abbrev Panics (er a : Int) : Ending := .panicked [{ v := faultV er a, recovered := false }]
/-- How a call that hands back a word ends. -/
def Does (w0 w : World) (r : Rd) (F : Nat → Nat) (o : Out Wd) (e : Ending) (w' : World) : Prop :=
  match o with
  | .ok x s' => e = .returned (wv x) ∧ WentR w0 w w' r F s'
  | .bad er a s' => e = Panics er a ∧ BadR w0 w w' r F s'
  | .lost => True
end Go.Proofs.YtbbopdkbokbafaaGreatDoor
