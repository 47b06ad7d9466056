/- Values of the cells: the walk. -/
import Derived.Test.YtgkblfegjmeolaaVaTr
namespace Go.Proofs.Ytgkblfegjmeolaa
open Go.RowKit Go.Lib Go.Shelf
theorem SlI.form {W w : World} {v : Value} {ks : List Nat} (h : SlI W w v ks) : ∃ a cap, v = .slice a ks.length cap ∧ (∀ g, a = some ⟨g, 0, none⟩ → W.heap.size ≤ g) ∧ ∀ i k : Nat, ks[i]? = some k → ∃ g, a = some ⟨g, 0, none⟩ ∧ W.heap.size ≤ g ∧ g < w.heap.size ∧ w.cell? ⟨g, i, none⟩ = some (.int .i64 (k : Int)) := by
  rcases h with ⟨rfl, rfl⟩ | ⟨g, cap, rfl, h1, h2, h3⟩
  · exact ⟨none, 0, rfl, fun g e => (by cases e), fun i k hk => by simp at hk⟩
  · exact ⟨_, cap, rfl, fun g2 e => (by cases e; exact h1), fun i k hk => ⟨g, rfl, h1, h2, h3 i k hk⟩⟩
theorem Sk.lt {f : Nat → Option Value} {ks : List Nat} (h : Sk f ks) {i j a b : Nat} (hi : ks[i]? = some a) (hj : ks[j]? = some b) (hlt : i < j) : a < b := by
  obtain ⟨h1, e1⟩ := List.getElem?_eq_some_iff.1 hi
  obtain ⟨h2, e2⟩ := List.getElem?_eq_some_iff.1 hj
  rw [← e1, ← e2]
  exact List.pairwise_iff_getElem.1 h.1 i j h1 h2 hlt
theorem sorted_first {w : World} {cm c : Nat} {R : RD} {f : Nat → Option Value} (h : MapF w R cm c f) (hc : c ≤ 400000) :
    Calls Try.prog 59 #[.func (.func 69) #[] #[.pointer (some ⟨w.heap.size, 0, none⟩)]] (w.alloc (.cells #[.map (some cm)] 54)) fun e w' => ∃ a cap ks, e = .returned (.slice a ks.length cap) ∧ Sk f ks ∧ ks.length ≤ c ∧ (∀ g, a = some ⟨g, 0, none⟩ → w.heap.size ≤ g) ∧ (∀ i k : Nat, ks[i]? = some k → ∃ g, a = some ⟨g, 0, none⟩ ∧ w.heap.size ≤ g ∧ g < w'.heap.size ∧ w'.cell? ⟨g, i, none⟩ = some (.int .i64 (k : Int))) ∧ Below w.heap.size w w' := by
  have hb : Below w.heap.size w (w.alloc (.cells #[.map (some cm)] 54)) := (Below.refl _ _).alloc (Nat.le_refl _) _
  have ha := alloc_at w (.cells #[.map (some cm)] 54)
  refine ((callsIn_wide (n := 6)).1 (skeysB (h.move (hb.block cm h.lt)) hc (by simp) (cell_at ha))).mono ?_
  rintro e w' ⟨v, ks, rfl, h1, h2, h3, h4⟩
  obtain ⟨a, cap, rfl, h6, h5⟩ := SlI.form h3
  exact ⟨a, cap, ks, rfl, h1, h2, fun g e => Nat.le_trans hb.size (h6 g e), fun i k hk => (h5 i k hk).imp fun g q => ⟨q.1, Nat.le_trans hb.size q.2.1, q.2.2⟩, hb.trans (h4.mono hb.size)⟩
theorem sorted_next {w : World} {ib c : Nat} {R : RD} {f : Nat → Option Value} (h : MapF w R ib c f) (hc : c ≤ 400000) :
    Calls Try.prog 59 #[.func (.func 68) #[] #[.pointer (some ⟨w.heap.size, 0, none⟩)]] (w.alloc (.cells #[.map (some ib)] 84)) fun e w' => ∃ a cap ks, e = .returned (.slice a ks.length cap) ∧ Sk f ks ∧ ks.length ≤ c ∧ (∀ g, a = some ⟨g, 0, none⟩ → w.heap.size ≤ g) ∧ (∀ i k : Nat, ks[i]? = some k → ∃ g, a = some ⟨g, 0, none⟩ ∧ w.heap.size ≤ g ∧ g < w'.heap.size ∧ w'.cell? ⟨g, i, none⟩ = some (.int .i64 (k : Int))) ∧ Below w.heap.size w w' := by
  have hb : Below w.heap.size w (w.alloc (.cells #[.map (some ib)] 84)) := (Below.refl _ _).alloc (Nat.le_refl _) _
  have ha := alloc_at w (.cells #[.map (some ib)] 84)
  refine ((callsIn_wide (n := 6)).1 (skeysA (h.move (hb.block ib h.lt)) hc (by simp) (cell_at ha))).mono ?_
  rintro e w' ⟨v, ks, rfl, h1, h2, h3, h4⟩
  obtain ⟨a, cap, rfl, h6, h5⟩ := SlI.form h3
  exact ⟨a, cap, ks, rfl, h1, h2, fun g e => Nat.le_trans hb.size (h6 g e), fun i k hk => (h5 i k hk).imp fun g q => ⟨q.1, Nat.le_trans hb.size q.2.1, q.2.2⟩, hb.trans (h4.mono hb.size)⟩
theorem keysA_any (mb : Option Nat) (W : World) : Calls Try.prog 60 #[.map mb] W fun e w' => e = .returned (.func (.func 68) #[] #[.pointer (some ⟨W.heap.size, 0, none⟩)]) ∧ w' = W.alloc (.cells #[.map mb] 84) := (callsIn_wide (n := 6)).1 (keysA_in mb W)
theorem keysB_any (mb : Option Nat) (W : World) : Calls Try.prog 65 #[.map mb] W fun e w' => e = .returned (.func (.func 69) #[] #[.pointer (some ⟨W.heap.size, 0, none⟩)]) ∧ w' = W.alloc (.cells #[.map mb] 54) := (callsIn_wide (n := 6)).1 (keysB_in mb W)
/-- What the outer loop has taken. -/
def Took (ks : List Nat) (i : Nat) (k _n : Nat) : Prop := ∃ j, j < i ∧ ks[j]? = some k
/-- What the inner loop has taken. -/
def Took2 (ks ns : List Nat) (i j : Nat) (k0 : Nat) (k n : Nat) : Prop := Took ks i k n ∨ (k = k0 ∧ ∃ x, x < j ∧ ns[x]? = some n)
theorem cell_same {w w' : World} {b i : Nat} (h : w'.heap[b]? = w.heap[b]?) : w'.cell? ⟨b, i, none⟩ = w.cell? ⟨b, i, none⟩ := by
  unfold World.cell?
  simp only [h]
structure Outer (w0 wr : World) (C : Nat → Nat → Option Cl) (ks : List Nat) (i : Nat) (lv : Value) (l : List Wd) : Prop where
  own : OwnL wr lv l
  new : ∀ k, lv.ownBlock = some k → w0.heap.size ≤ k
  below : Below w0.heap.size w0 wr
  tr : Tr C (Took ks i) l
  len : l.length ≤ i * 400000
structure Inner (w0 w1 wi : World) (C : Nat → Nat → Option Cl) (ks ns : List Nat) (i j k : Nat) (a2 : Option Addr) (lv : Value) (l : List Wd) : Prop where
  own : OwnL wi lv l
  new : ∀ x, lv.ownBlock = some x → w0.heap.size ≤ x ∧ ∀ g, a2 = some ⟨g, 0, none⟩ → g < w1.heap.size → x ≠ g
  below : Below w0.heap.size w0 wi
  kept : ∀ g, a2 = some ⟨g, 0, none⟩ → g < w1.heap.size → wi.heap[g]? = w1.heap[g]?
  size : w1.heap.size ≤ wi.heap.size
  tr : Tr C (Took2 ks ns i j k) l
  len : l.length ≤ i * 400000 + j
theorem Outer.start (w0 : World) (C : Nat → Nat → Option Cl) (ks : List Nat) : Outer w0 w0 C ks 0 (.slice none 0 0) [] :=
  ⟨OwnL.nil w0, fun k hk => (by cases hk), Below.refl _ _, (Tr.nil C).ext fun k n _ => ⟨fun e => e.elim, fun ⟨j, hj, _⟩ => absurd hj (by omega)⟩, Nat.zero_le _⟩
theorem Outer.enter {w0 wr w1 : World} {C : Nat → Nat → Option Cl} {ks ns : List Nat} {i k : Nat} {lv : Value} {l : List Wd} {a2 : Option Addr} (h : Outer w0 wr C ks i lv l) (hb : Below wr.heap.size wr w1) (ha : ∀ g, a2 = some ⟨g, 0, none⟩ → wr.heap.size ≤ g) : Inner w0 w1 w1 C ks ns i 0 k a2 lv l := by
  have h1 := h.below.size
  refine ⟨h.own.below hb, fun x hx => ⟨h.new x hx, fun g hg _ => ?_⟩, h.below.trans (hb.mono h1), fun _ _ _ => rfl, Nat.le_refl _, h.tr.ext fun k' n' _ => ⟨fun e => .inl e, fun e => ?_⟩, Nat.le_trans h.len (Nat.le_add_right _ _)⟩
  · have := h.own.lt x hx
    have := ha g hg
    omega
  · rcases e with e | ⟨_, x, hx, _⟩
    · exact e
    · omega
theorem Inner.step {w0 w1 wi w2 w' : World} {C : Nat → Nat → Option Cl} {ks ns : List Nat} {i j k n : Nat} {a2 : Option Addr} {lv lv' : Value} {l : List Wd} {f f2 : Nat → Option Value} (h : Inner w0 w1 wi C ks ns i j k a2 lv l) (hb : Below wi.heap.size wi w2) (ho : OwnL w' lv' (addC ((C k n).getD ((0, 0), false)) l)) (hg : Grew w2 w' lv lv') (h01 : w0.heap.size ≤ w1.heap.size)
    (hks : Sk f ks) (hk : ks[i]? = some k) (hns : Sk f2 ns) (hn : ns[j]? = some n) : Inner w0 w1 w' C ks ns i (j + 1) k a2 lv' (addC ((C k n).getD ((0, 0), false)) l) := by
  have hs := h.size
  obtain ⟨g1, g2, g3, g4⟩ := hg.ahead hb
  refine ⟨ho, fun x hx => ?_, ?_, fun g e hl => ?_, by omega, (h.tr.step k n fun k' n' q => ?_).ext fun k' n' _ => ?_, by have := addC_len ((C k n).getD ((0, 0), false)) l; have := h.len; omega⟩
  · rcases g2 x hx with e | e
    · exact h.new x e
    · exact ⟨by omega, fun g _ hl => by omega⟩
  · exact h.below.trans (g4 _ h.below.size fun x hx => (h.new x hx).1)
  · refine (g3 g (by omega) fun e2 => ?_).trans (h.kept g e hl)
    exact (h.new g e2).2 g e hl rfl
  · rcases q with ⟨x, hx, hkx⟩ | ⟨q1, x, hx, hnx⟩
    · exact .inl (hks.lt hkx hk hx)
    · exact .inr ⟨q1, hns.lt hnx hn hx⟩
  · constructor
    · rintro ((q | ⟨q1, x, hx, hnx⟩) | ⟨q1, q2⟩)
      · exact .inl q
      · exact .inr ⟨q1, x, by omega, hnx⟩
      · exact .inr ⟨q1, j, by omega, by rw [hn, q2]⟩
    · rintro (q | ⟨q1, x, hx, hnx⟩)
      · exact .inl (.inl q)
      · by_cases e : x = j
        · subst e
          rw [hn] at hnx
          cases hnx
          exact .inr ⟨q1, rfl⟩
        · exact .inl (.inr ⟨q1, x, by omega, hnx⟩)
theorem Inner.leave {w0 w1 wi : World} {C : Nat → Nat → Option Cl} {ks ns : List Nat} {i k : Nat} {a2 : Option Addr} {lv : Value} {l : List Wd} (h : Inner w0 w1 wi C ks ns i ns.length k a2 lv l) (hk : ks[i]? = some k) (hn : ∀ n, C k n ≠ none → n ∈ ns) (hl : ns.length ≤ 400000) : Outer w0 wi C ks (i + 1) lv l := by
  refine ⟨h.own, fun x hx => (h.new x hx).1, h.below, h.tr.ext fun k' n' hC => ?_, by have := h.len; omega⟩
  constructor
  · rintro (⟨j, hj, hkj⟩ | ⟨q1, x, hx, hnx⟩)
    · exact ⟨j, by omega, hkj⟩
    · exact ⟨i, by omega, by rw [hk, q1]⟩
  · rintro ⟨j, hj, hkj⟩
    by_cases e : j = i
    · subst e
      rw [hk] at hkj
      cases hkj
      obtain ⟨x, hx⟩ := List.getElem?_of_mem (hn n' hC)
      exact .inr ⟨rfl, x, (List.getElem?_eq_some_iff.1 hx).1, hx⟩
    · exact .inl ⟨j, by omega, hkj⟩
set_option maxHeartbeats 4000000 in
set_option maxRecDepth 100000 in
theorem cvals_any {w : World} {G : Nat → Nat} {C : Nat → Nat → Option Cl} {c cm : Nat} {sc : Nat → Option Nat} {cb : Nat → Nat → Option Nat} (h : CellsAt w G C c cm sc cb) (hF : Full sc cb) (hk : ∀ k n, (C k n).isSome = true → k ≤ 65536) (hc : c ≤ 400000) :
    Calls Try.prog 57 #[.map (some cm)] w fun e w' => ∃ v l, e = .returned v ∧ OwnL w' v l ∧ (∀ k, v.ownBlock = some k → w.heap.size ≤ k) ∧ Tr C (fun _ _ => True) l ∧ Below w.heap.size w w' ∧ l.length ≤ 400000 * 400000 := by
  have cK := keysB_any (some cm) w
  have cS := sorted_first h.outer hc
  have HH := Lib.hid (And.intro h (And.intro hF (And.intro hk hc)))
  clear h hF hk hc
  go_enter Try.func57, Try.ntmps57
  go_wp2_with fail
  refine cK.mono ?_
  rintro e w1 ⟨rfl, rfl⟩
  go_wp2_with fail
  refine cS.mono ?_
  rintro e w0 ⟨a, cap, ks, rfl, hS, hlen, _, hcs, hb0⟩
  have HS := Lib.hid (And.intro hS (And.intro hlen (And.intro hcs hb0)))
  have hkl : ks.length ≤ 400000 := Nat.le_trans hlen HH.out.2.2.2
  clear hS hlen hcs hb0 cK cS
  go_wp2_with fail
  have HO := Lib.hid (Outer.start w0 C ks)
  have hkI : (ks.length : Int) ≤ 400000 := by omega
  go_loopw [3, 12] (fun lv iv wr => ∃ (i : Nat) (l : List Wd), iv = .int .i64 i ∧ i ≤ ks.length ∧ Hid (Outer w0 wr C ks i lv l)) (fun _ iv _ => ks.length - (RowKit.intOf iv).toNat)
  case atStart => exact ⟨0, [], rfl, Nat.zero_le _, HO⟩
  case round =>
    obtain ⟨i, l, rfl, hi, HC⟩ := hrel
    by_cases hlt : (i : Int) < (ks.length : Int)
    · have hil : i < ks.length := by omega
      obtain ⟨k, hki⟩ : ∃ k, ks[i]? = some k := ⟨_, List.getElem?_eq_getElem hil⟩
      obtain ⟨g, rfl, hg1, hg2, hg3⟩ := HS.out.2.2.1 i k hki
      have q0 : wr.cell? ⟨g, i, none⟩ = some (.int .i64 (k : Int)) := (HC.out.below.cell (p := ⟨g, i, none⟩) hg2).trans hg3
      have hkf : (sc k).map hmap ≠ none := (HS.out.1.2 k).1 (List.mem_of_getElem? hki)
      obtain ⟨ib, hsk⟩ : ∃ ib, sc k = some ib := by
        cases hs : sc k with
        | none => rw [hs] at hkf; exact absurd rfl hkf
        | some ib => exact ⟨ib, rfl⟩
      have hk1 : k ≤ 65536 := by
        obtain ⟨n, hn⟩ := HH.out.2.1 k ib hsk
        rw [HH.out.1.some_iff] at hn
        exact HH.out.2.2.1 k n hn
      have hwr : Below w.heap.size w wr := HS.out.2.2.2.trans (HC.out.below.mono HS.out.2.2.2.size)
      have l1 := (HH.out.1.below hwr).look1 k hk1
      rw [hsk] at l1
      have hMi := (HH.out.1.below hwr).inner k ib hsk
      have cK := keysA_any (some ib) wr
      have cS := sorted_next hMi.2 HH.out.2.2.2
      have HR := Lib.hid (And.intro hki (And.intro hsk (And.intro hk1 (And.intro hwr hil))))
      clear hki hsk hwr hMi hkf hg1 hg3 hil
      go_wp2_with fail
      refine cK.mono ?_
      rintro e w1 ⟨rfl, rfl⟩
      go_wp2_with fail
      refine cS.mono ?_
      rintro e w1 ⟨a2, cap2, ns, rfl, hS2, hlen2, hga, hcs2, hb2⟩
      have hnl : ns.length ≤ 400000 := Nat.le_trans hlen2 HH.out.2.2.2
      have HI := Lib.hid (HC.out.enter (k := k) (ns := ns) (a2 := a2) hb2 hga)
      have HN := Lib.hid (And.intro hS2 (And.intro hcs2 hb2))
      clear hS2 hlen2 hga hcs2 hb2 cK cS l1 q0
      go_wp2_with fail
      have hnI : (ns.length : Int) ≤ 400000 := by omega
      have HB := Lib.hid (And.intro hi (And.intro hkl hnl))
      go_loopw [3, 22] (fun lv jv wi => ∃ (j : Nat) (l : List Wd), jv = .int .i64 j ∧ j ≤ ns.length ∧ Hid (Inner w0 w1 wi C ks ns i j k a2 lv l)) (fun _ jv _ => ns.length - (RowKit.intOf jv).toNat)
      case atStart => exact ⟨0, l, rfl, Nat.zero_le _, HI⟩
      case round =>
        obtain ⟨j, l2, rfl, hj, HL⟩ := hrel
        by_cases hlt2 : (j : Int) < (ns.length : Int)
        · have hjl : j < ns.length := by omega
          obtain ⟨n, hnj⟩ : ∃ n, ns[j]? = some n := ⟨_, List.getElem?_eq_getElem hjl⟩
          obtain ⟨g2, rfl, hh1, hh2, hh3⟩ := HN.out.2.1 j n hnj
          have q1 : wr.cell? ⟨g2, j, none⟩ = some (.int .i64 (n : Int)) := (cell_same (HL.out.kept g2 rfl hh2)).trans hh3
          have hnf : (cb k n).map hptr ≠ none := (HN.out.1.2 n).1 (List.mem_of_getElem? hnj)
          obtain ⟨b, hcb⟩ : ∃ b, cb k n = some b := by
            cases hq : cb k n with
            | none => rw [hq] at hnf; exact absurd rfl hnf
            | some b => exact ⟨b, rfl⟩
          have hn1 := (HH.out.1.cell k n b hcb).1
          have hwi : Below w.heap.size w wr := HS.out.2.2.2.trans (HL.out.below.mono HS.out.2.2.2.size)
          have cC := content_any (HH.out.1.below hwi) k n hk1 hn1
          have h01 : w0.heap.size ≤ w1.heap.size := Nat.le_trans HC.out.below.size HN.out.2.2.size
          have hl2 : l2.length ≤ 1000000000000 := by
            have h1 := HL.out.len
            have h2 := HB.out.1
            have h3 := HB.out.2.1
            have h4 := HB.out.2.2
            omega
          have HJ := Lib.hid (And.intro hnj (And.intro h01 hl2))
          have hg2w : g2 < w1.heap.size := hh2
          clear hnj hnf hcb hn1 hwi h01 hl2 hh1 hh3 hjl
          go_wp2_with fail
          refine cC.mono ?_
          rintro e w2 ⟨rfl, hb2⟩
          have cA := addto_any (HL.out.own.below hb2) ((C k n).getD ((0, 0), false)) HJ.out.2.2
          have HB2 := Lib.hid hb2
          clear cC q1 hb2
          go_wp2_with fail
          refine cA.mono ?_
          rintro e w3 ⟨lv', rfl, ho, hg⟩
          have HF := Lib.hid (HL.out.step HB2.out ho hg HJ.out.2.1 HS.out.1 HR.out.1 HN.out.1 HJ.out.1)
          clear cA ho hg
          go_wp2
          go_roundw
          case rel => exact ⟨j + 1, _, by go_num, by omega, HF⟩
          case measure => simp [RowKit.intOf]; omega
        · have hjn : j = ns.length := by omega
          subst hjn
          clear hj hlt2
          go_wp2
          go_roundw
          case rel =>
            refine ⟨i + 1, l2, by go_num, by omega, Lib.hid (HL.out.leave HR.out.1 (fun n hn => (HN.out.1.2 n).2 (show (cb k n).map hptr ≠ none from fun e => hn (HH.out.1.free k n (by
              cases hq : cb k n with
              | none => rfl
              | some b => rw [hq] at e; cases e)))) hnl)⟩
          case measure => simp [RowKit.intOf]; omega
    · have hin : i = ks.length := by omega
      subst hin
      clear hi hlt
      go_wp2
      go_ret
      have h0 := HC.out
      refine ⟨_, l, rfl, h0.own, fun k hk => Nat.le_trans HS.out.2.2.2.size (h0.new k hk), h0.tr.ext fun k n hC => ⟨fun _ => trivial, fun _ => ?_⟩, HS.out.2.2.2.trans (h0.below.mono HS.out.2.2.2.size), Nat.le_trans h0.len (Nat.mul_le_mul_right _ hkl)⟩
      have hm : k ∈ ks := (HS.out.1.2 k).2 (show (sc k).map hmap ≠ none from fun e => hC (by
        cases hs : sc k with
        | none => exact HH.out.1.free k n (HH.out.1.nos k n hs)
        | some ib => rw [hs] at e; cases e))
      obtain ⟨x, hx⟩ := List.getElem?_of_mem hm
      exact ⟨x, (List.getElem?_eq_some_iff.1 hx).1, hx⟩
end Go.Proofs.Ytgkblfegjmeolaa
