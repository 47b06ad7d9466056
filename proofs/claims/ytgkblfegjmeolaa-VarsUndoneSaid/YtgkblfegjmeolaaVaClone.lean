/- clone: cells that share no memory with the old ones. -/
import Derived.Test.YtgkblfegjmeolaaVaRange
import Derived.Test.YtgkblfegjmeolaaVaVars
namespace Go.Proofs.Ytgkblfegjmeolaa
open Go.RowKit Go.Lib
/-- What has been copied when the scopes 'left' are still to come. -/
def part1C (C : Nat → Nat → Option Cl) (left : Nat → Bool) : Nat → Nat → Option Cl := fun k n => if left k = true then none else C k n
/-- .. and of scope k the variables 'li'. -/
def part2C (C : Nat → Nat → Option Cl) (left : Nat → Bool) (k : Nat) (li : Nat → Bool) : Nat → Nat → Option Cl := fun k' n => if k' = k then (if li n = true then none else C k n) else if left k' = true then none else C k' n
theorem part2_start {C : Nat → Nat → Option Cl} {left : Nat → Bool} {k : Nat} {li : Nat → Bool} (hk : left k = true) (hl : ∀ n, li n = false → C k n = none) : part2C C (fun j => left j && !decide (j = k)) k li = part1C C left := by
  funext k' n
  unfold part2C part1C
  by_cases e : k' = k
  · subst e
    rw [if_pos rfl, if_pos hk]
    split
    · rfl
    · rename_i h; exact hl n (by simpa using h)
  · rw [if_neg e]
    simp [e]
theorem part2_step {C : Nat → Nat → Option Cl} {left : Nat → Bool} {k n : Nat} {li : Nat → Bool} {x : Cl} (hx : C k n = some x) : upd (part2C C left k li) k n (some x) = part2C C left k (fun j => li j && !decide (j = n)) := by
  funext k' n'
  unfold upd part2C
  by_cases e : k' = k ∧ n' = n
  · obtain ⟨rfl, rfl⟩ := e
    rw [if_pos ⟨rfl, rfl⟩, if_pos rfl]
    simp [hx]
  · rw [if_neg e]
    by_cases e1 : k' = k
    · have e2 : n' ≠ n := fun h => e ⟨e1, h⟩
      simp [e1, e2]
    · simp [e1]
theorem part2_end {C : Nat → Nat → Option Cl} {left : Nat → Bool} {k : Nat} {li : Nat → Bool} (hk : left k = false) (hl : ∀ n, li n = true → False) : part2C C left k li = part1C C left := by
  funext k' n
  unfold part2C part1C
  by_cases e : k' = k
  · subst e
    rw [if_pos rfl, if_neg (fun h => hl n h), if_neg (by rw [hk]; decide)]
  · rw [if_neg e]
theorem part1_end {C : Nat → Nat → Option Cl} {left : Nat → Bool} (hl : ∀ k, left k = true → False) : part1C C left = C := by
  funext k n
  unfold part1C
  rw [if_neg (hl k)]
/-- The copy under way: its own labels are nought on all that stood before. -/
structure CopyC (w wr : World) (G2 : Nat → Nat) (C : Nat → Nat → Option Cl) (cy cmy : Nat) : Prop where
  below : Below w.heap.size w wr
  new : ∀ j, wr.heap.size ≤ j → G2 j = 0
  old : ∀ j, j < w.heap.size → G2 j = 0
  labs : ∀ j, G2 j = 0 ∨ G2 j = 2 ∨ 6 ≤ G2 j
  cells : ∃ sc cb, CellsAt wr G2 C cy cmy sc cb ∧ Full sc cb
theorem CopyC.start (w : World) : CopyC w (w.alloc (.map #[] 0)) (fun j => if j = w.heap.size then 2 else 0) (fun _ _ => none) 0 w.heap.size := by
  refine ⟨(Below.refl _ _).alloc (Nat.le_refl _) _, fun j hj => if_neg (by simp at hj; omega), fun j hj => if_neg (by omega), fun j => ?_, fun _ => none, fun _ _ => none, ⟨if_pos rfl, (MapF.made w mapE).ext (fun _ => rfl), (fun k b hk => by cases hk), (fun _ _ _ => rfl), (fun k n b hk => by cases hk), (fun _ _ _ => rfl)⟩, (fun k b hk => by cases hk)⟩
  show (if j = w.heap.size then 2 else 0) = 0 ∨ (if j = w.heap.size then 2 else 0) = 2 ∨ 6 ≤ (if j = w.heap.size then 2 else 0)
  split
  · exact .inr (.inl rfl)
  · exact .inl rfl
/-- A step of a range, a new iterator: blocks whose label is nought. -/
theorem CopyC.keep {w wr w' : World} {G2 : Nat → Nat} {C : Nat → Nat → Option Cl} {cy cmy : Nat} {row : Option Nat} (h : CopyC w wr G2 C cy cmy) (hg : wr.grownBy w' row) (hr : ∀ r, row = some r → w.heap.size ≤ r ∧ G2 r = 0) : CopyC w w' G2 C cy cmy := by
  obtain ⟨h1, h2, h3, h4, sc, cb, h5, h6⟩ := h
  refine ⟨h1.grown hg h1.size (fun r e => (hr r e).1), fun j hj => h2 j (Nat.le_trans hg.size hj), h3, h4, sc, cb, h5.keep (fun j hj e => hg.block j hj (fun e2 => ?_)) (fun _ _ _ => rfl), h6⟩
  have := (hr j e2.symm).2
  omega
set_option maxHeartbeats 1000000 in
/-- A cell is stored into the copy. -/
theorem CopyC.store {w wr : World} {G2 : Nat → Nat} {C : Nat → Nat → Option Cl} {cy cmy : Nat} (h : CopyC w wr G2 C cy cmy) (k n : Nat) (hk : k ≤ 65536) (hn : n < 16384) (hc : cy ≤ 1000000) (x : Cl) :
    Calls Try.prog 36 #[.map (some cmy), .int .i64 k, .int .i64 n, cag x] wr fun e w' => e = .returned (.tuple #[]) ∧ ∃ G3, CopyC w w' G3 (upd C k n (some x)) (cy + 2) cmy ∧ (∀ j, j < wr.heap.size → G2 j = 0 → w'.heap[j]? = wr.heap[j]? ∧ G3 j = 0) := by
  obtain ⟨h1, h2, h3, h4, sc, cb, h5, h6⟩ := h
  refine (store_any h5 h2 k n hk hn hc x h6).mono ?_
  rintro e w' ⟨he, G3, sc', cb', hC, hW, hF⟩
  have hs := h1.size
  refine ⟨he, G3, ⟨⟨hW.os.trans h1.os, hW.tape.trans h1.tape, hW.output.trans h1.output, Nat.le_trans hs hW.size, fun j hj => (hW.block j (by omega) (by rw [h3 j hj]; decide) (by rw [h3 j hj]; decide)).trans (h1.block j hj)⟩, hW.new, fun j hj => (hW.lab j (by omega)).trans (h3 j hj), fun j => ?_, sc', cb', hC, hF⟩, fun j hj hz => ⟨hW.block j hj (by omega) (by omega), (hW.lab j hj).trans hz⟩⟩
  by_cases hj : j < wr.heap.size
  · rw [hW.lab j hj]; exact h4 j
  · rcases hW.fresh j (by omega) with h | h
    · exact .inl h
    · exact .inr (.inr h)
theorem mapE_shape : ∀ v y, mapE v = some y → ∃ c : Option Nat, v = mval c := fun v y h => by
  obtain ⟨d, p⟩ := y
  rcases mapE_inv h with ⟨rfl, _⟩ | ⟨b, rfl, _⟩
  · exact ⟨none, rfl⟩
  · exact ⟨some b, rfl⟩
theorem ptrE_shape : ∀ v y, ptrE v = some y → ∃ c : Option Nat, v = pval c := fun v y h => by
  obtain ⟨d, p⟩ := y
  rcases ptrE_inv h with ⟨rfl, _⟩ | ⟨b, rfl, _⟩
  · exact ⟨none, rfl⟩
  · exact ⟨some b, rfl⟩
set_option maxHeartbeats 4000000 in
set_option maxRecDepth 100000 in
theorem cclone_any {w : World} {G : Nat → Nat} {C : Nat → Nat → Option Cl} {c cm : Nat} {sc : Nat → Option Nat} {cb : Nat → Nat → Option Nat} (h : CellsAt w G C c cm sc cb) (hF : Full sc cb) (hk : ∀ k n, (C k n).isSome = true → k ≤ 65536) (hc : c ≤ 400) :
    Calls Try.prog 52 #[.map (some cm)] w fun e w' => ∃ cmy G2 cy, e = .returned (.map (some cmy)) ∧ CopyC w w' G2 C cy cmy ∧ cy ≤ 400000 := by
  have hmm := @run_makeMap Try.prog
  have HS := Lib.hid (CopyC.start w)
  have e1 : (w.alloc (.map #[] 0)).heap.size = w.heap.size + 1 := by simp
  have HH := Lib.hid (And.intro h (And.intro hF (And.intro hk hc)))
  have hmo := h.outer.move (((Below.refl w.heap.size w).alloc (Nat.le_refl _) (.map #[] 0)).block cm h.outer.lt)
  have hcml := h.outer.lt
  clear h hF hk hc
  go_enter Try.func52, Try.ntmps52
  go_wp2_with (first
    | (at_range; refine wpList_rangeF _ rfl _ _ 84 rfl Try.underlying54 mapE cm c _ rfl hmo ?_; intro w0 cnt0 hr0)
    | fail)
  go_frame
  obtain ⟨hcnt0, hrg0, hg0, hs0⟩ := hr0.out
  clear hr0
  rw [e1] at hrg0 hs0 ⊢
  have hstart : part1C C (fun k => ((sc k).map hmap).isSome) = fun _ _ => none := by
    funext k n
    unfold part1C
    cases hs : sc k with
    | none =>
      rw [if_neg (by simp [hs])]
      exact HH.out.1.free k n (HH.out.1.nos k n hs)
    | some b => simp [hs]
  have HS1 := Lib.hid (show CopyC w w0 (fun j => if j = w.heap.size then 2 else 0) (part1C C (fun k => ((sc k).map hmap).isSome)) 0 w.heap.size from hstart ▸ HS.out.keep hg0 (fun r e => by cases e))
  clear HS hstart hmm hmo
  go_loopw [4] (fun _ wr => ∃ (left : Nat → Bool) (cnt : Nat) (G2 : Nat → Nat) (cy : Nat), RangeF wr mapE cm (w.heap.size + 1) c (fun k => (sc k).map hmap) left cnt ∧ Hid (CopyC w wr G2 (part1C C left) cy w.heap.size) ∧ G2 (w.heap.size + 1) = 0 ∧ cnt ≤ c ∧ cy + 2 * c * cnt ≤ 2 * c * c) (fun _ wr => wr.rangeLeft cm (w.heap.size + 1))
  case atStart => exact ⟨_, cnt0, _, 0, hrg0, HS1, if_neg (by omega), hcnt0, by rw [Nat.zero_add]; exact Nat.mul_le_mul_left _ hcnt0⟩
  case round =>
    obtain ⟨left, cnt, G2, cy, hrg, HC, hz1, hcn, hcy⟩ := hrel
    go_wp2_with (first
      | (at_next; refine wpList_nextF _ rfl _ rfl mapE map_tell mval mapE_shape cm (w.heap.size + 1) c _ left cnt rfl hrg ?_ ?_)
      | fail)
    · intro hl
      go_wp2
      go_ret
      have e9 := HC.out
      rw [part1_end (fun k hk => by have h9 := hl.out k; simp [hk] at h9)] at e9
      have h4 := HH.out.2.2.2
      refine ⟨_, G2, cy, rfl, e9, ?_⟩
      have : 2 * c * c ≤ 2 * 400 * 400 := Nat.mul_le_mul (Nat.mul_le_mul_left _ h4) h4
      omega
    · intro k v w1 cnt1 hmr hen
      obtain ⟨hfk, hlk, hrg1, hlt, hg1, hs1⟩ := hmr.out
      clear hmr
      obtain ⟨ib, hsk, rfl⟩ := hfk
      have HC1 := Lib.hid (HC.out.keep hg1 (fun r e => by cases e; exact ⟨by omega, hz1⟩))
      obtain ⟨hGi, hMi⟩ := HH.out.1.inner k ib hsk
      have hmi := hMi.move (HC1.out.below.block ib hMi.lt)
      clear hMi HC
      go_wp2_with (first
        | (at_range; refine wpList_rangeF _ rfl _ _ 85 rfl Try.underlying84 ptrE ib c _ rfl hmi ?_; intro w2 cnt2 hr2)
        | fail)
      go_frame
      obtain ⟨hcnt2, hrg2, hg2, hs2⟩ := hr2.out
      clear hr2
      obtain ⟨r2, hr2⟩ : ∃ r2, w1.heap.size = r2 := ⟨_, rfl⟩
      rw [hr2] at hrg2 hs2 ⊢
      have hrgo := hrg1.move (hg2.block _ hrg1.lt.2 (by simp)) (hg2.block _ hrg1.lt.1 (by simp))
      have h2l := hrg2.lt
      have hz2 : G2 r2 = 0 := HC1.out.new r2 (by omega)
      have HC2 := Lib.hid (show CopyC w w2 G2 (part2C C (fun j => left j && !decide (j = k)) k (fun n => ((cb k n).map hptr).isSome)) cy w.heap.size from (part2_start hlk (fun n hn => HH.out.1.free k n (by have hn2 : ((cb k n).map hptr).isSome = false := hn; cases hq : cb k n with | none => rfl | some b => rw [hq] at hn2; simp at hn2))).symm ▸ HC1.out.keep hg2 (fun r e => by cases e))
      have hr12 : w.heap.size + 1 < r2 := by have := hrg1.lt.1; omega
      have hk1 : k ≤ 65536 := by
        obtain ⟨n, hn⟩ := HH.out.2.1 k ib hsk
        rw [HH.out.1.some_iff] at hn
        exact HH.out.2.2.1 k n hn
      have hib : ib < w.heap.size := (HH.out.1.inner k ib hsk).2.lt
      have HI := Lib.hid (And.intro hz1 (And.intro hz2 (And.intro hr12 (And.intro hk1 (And.intro hib (And.intro hcml (And.intro hcn (And.intro hcy (And.intro hlt hlk)))))))))
      have HR := Lib.hid (And.intro hrgo hrg2)
      have HO := Lib.hid hrg
      clear HC1 hg2 hg1 hs1 hs2 hmi hrg hrg1 hrgo hrg2 h2l hz1 hz2 hr12 hk1 hib hcn hcy
      go_loopw [6] (fun _ wi => ∃ (li : Nat → Bool) (ci : Nat) (G3 : Nat → Nat) (cz : Nat), Hid (RangeF wi ptrE ib r2 c (fun n => (cb k n).map hptr) li ci ∧ RangeF wi mapE cm (w.heap.size + 1) c (fun k => (sc k).map hmap) (fun j => left j && !decide (j = k)) cnt1 ∧
        CopyC w wi G3 (part2C C (fun j => left j && !decide (j = k)) k li) cz w.heap.size ∧ G3 (w.heap.size + 1) = 0 ∧ G3 r2 = 0 ∧ r2 < wi.heap.size ∧ ci ≤ c ∧ cz + 2 * ci ≤ cy + 2 * c)) (fun _ wi => wi.rangeLeft ib r2)
      case atStart => exact ⟨_, cnt2, G2, cy, Lib.hid ⟨HR.out.2, HR.out.1, HC2.out, HI.out.1, HI.out.2.1, HR.out.2.lt.1, hcnt2, by omega⟩⟩
      case round =>
        obtain ⟨li, ci, G3, cz, HL⟩ := hrel
        have hri := HL.out.1
        go_wp2_with (first
          | (at_next; refine wpList_nextF _ rfl _ rfl ptrE ptr_tell pval ptrE_shape ib r2 c _ li ci rfl hri ?_ ?_)
          | fail)
        · intro hl
          have e9 := HL.out.2.2.1
          rw [part2_end (by simp) (fun n hn => by have h9 := hl.out n; simp [hn] at h9)] at e9
          have HE := Lib.hid e9
          clear hri e9 hl
          go_wp2
          go_roundw
          case rel =>
            have hI := HI.out
            refine ⟨_, cnt1, G3, cz, HL.out.2.1, HE, HL.out.2.2.2.1, by omega, ?_⟩
            have h1 : cz ≤ cy + 2 * c := by have := HL.out.2.2.2.2.2.2.2; omega
            have h2 : 2 * c * cnt1 + 2 * c ≤ 2 * c * cnt := by
              rw [← Nat.mul_succ]
              exact Nat.mul_le_mul_left _ hI.2.2.2.2.2.2.2.2.1
            have h3 := hI.2.2.2.2.2.2.2.1
            omega
          case measure =>
            rw [HL.out.2.1.left_eq, HO.out.left_eq]
            exact HI.out.2.2.2.2.2.2.2.2.1
        · intro n v w3 cnt3 hmr hen3
          obtain ⟨hfk, hlk3, hrg3, hlt3, hg3, hs3⟩ := hmr.out
          clear hmr
          obtain ⟨b, hcb, hv⟩ := hfk
          obtain rfl : v = some b := by
            cases v with
            | none => cases hv
            | some b2 => simp at hv; rw [hv]
          have hpv : pval (some b) = .pointer (some ⟨b, 0, none⟩) := rfl
          rw [hpv] at hen3 ⊢
          clear hpv hv
          obtain ⟨hn, hGb, x, hx, hbx⟩ := HH.out.1.cell k n b hcb
          have hI := HI.out
          have HC3 := Lib.hid (HL.out.2.2.1.keep hg3 (fun r e => by cases e; exact ⟨by omega, HL.out.2.2.2.2.1⟩))
          have hb3 := (HC3.out.below.block b (lt_at hbx)).trans hbx
          have u0 : w3.cell? ⟨b, 0, none⟩ = some (.int .i64 x.1.1) := (cell_at hb3).trans rfl
          have u1 : w3.cell? ⟨b, 1, none⟩ = some (.int .i64 x.1.2) := (cell_at hb3).trans rfl
          have u2 : w3.cell? ⟨b, 2, none⟩ = some (.bool x.2) := (cell_at hb3).trans rfl
          have hcz : cz ≤ 1000000 := by
            have h1 := HL.out.2.2.2.2.2.2.2
            have h2 := hI.2.2.2.2.2.2.2.1
            have h4 := HH.out.2.2.2
            have h5 : 2 * c * c ≤ 2 * 400 * 400 := Nat.mul_le_mul (Nat.mul_le_mul_left _ h4) h4
            omega
          have HSt := Lib.hid (HC3.out.store k n hI.2.2.2.1 hn hcz x)
          have hro := HL.out.2.1.move (hg3.block _ HL.out.2.1.lt.2 (fun e => by cases e; omega)) (hg3.block _ HL.out.2.1.lt.1 (fun e => by cases e; omega))
          have HR3 := Lib.hid (And.intro hrg3 (And.intro hro (And.intro hx (And.intro hlt3 hs3))))
          clear hrg3 hro hx hlt3 hlk3 hg3 hs3 hb3 hbx hGb hcb hcz hn hI
          go_wp2_with fail
          refine HSt.out.mono ?_
          rintro e w4 ⟨rfl, G4, h4, hkp⟩
          have hI := HI.out
          have hf := HL.out
          have q1 := hkp ib (by have := HR3.out.1.lt.2; omega) (HC3.out.old ib hI.2.2.2.2.1)
          have q2 := hkp r2 HR3.out.1.lt.1 hf.2.2.2.2.1
          have q3 := hkp cm HR3.out.2.1.lt.2 (HC3.out.old cm hI.2.2.2.2.2.1)
          have q4 := hkp (w.heap.size + 1) HR3.out.2.1.lt.1 hf.2.2.2.1
          rw [part2_step HR3.out.2.2.1] at h4
          have H4 := Lib.hid (And.intro (HR3.out.1.move q1.1 q2.1) (And.intro (HR3.out.2.1.move q3.1 q4.1) (And.intro h4 (And.intro q4.2 q2.2))))
          clear h4 hkp q1 q2 q3 q4 hf hI HSt u0 u1 u2
          go_wp2
          go_roundw
          case rel =>
            exact ⟨_, cnt3, G4, cz + 2, Lib.hid ⟨H4.out.1, H4.out.2.1, H4.out.2.2.1, H4.out.2.2.2.1, H4.out.2.2.2.2, H4.out.1.lt.1, by have := HL.out.2.2.2.2.2.2.1; have := HR3.out.2.2.2.1; omega, by have := HL.out.2.2.2.2.2.2.2; have := HR3.out.2.2.2.1; omega⟩⟩
          case measure =>
            rw [H4.out.1.left_eq, hri.left_eq]
            exact HR3.out.2.2.2.1
end Go.Proofs.Ytgkblfegjmeolaa
