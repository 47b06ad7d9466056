/- The contract of the reader's chain. -/
import Derived.Test.YtbbopdkbokbafaaGreatDoorRdGo
import Derived.Deep.RegionWith
import Derived.Deep.DeepCutAuto
namespace Go.Proofs.YtbbopdkbokbafaaGreatDoor
open Go.RowKit Go.Lib
/-- A slice of words that the reader does not write. -/
def PartsAt (w : World) (r : Rd) (F : Nat → Nat) (v : Value) (l : List Wd) : Prop :=
  ∃ a cap, v = .slice a l.length cap ∧ ∀ (i : Nat) x, l[i]? = some x → ∃ g off, a = some ⟨g, off, none⟩ ∧ g < w.heap.size ∧ F g = 0 ∧ g ≠ r.pb ∧ w.cell? ⟨g, off + i * 2, none⟩ = some (.int .i64 x.1) ∧ w.cell? ⟨g, off + i * 2 + 1, none⟩ = some (.int .i64 x.2)
/-- A block that holds a word. -/
abbrev wob (x : Wd) : Obj := .cells #[.int .i64 x.1, .int .i64 x.2] 28 (0, 0)
section
variable {w0 w w1 W : World} {O : Nat → Prop} {r : Rd} {F : Nat → Nat} {s s1 : Rs}
theorem cons_go (H : RdAt w0 w r F s) (g : GoR w0 w W O r F s1) (a d : Wd) :
    Calls Tryz.prog 87 #[hptr r.hb, wv a, wv d] W fun e w' => e = .returned (.tuple #[wv (s1.h.make (.pair a d)).2.1, .int .i64 (s1.h.make (.pair a d)).2.2]) ∧ GoR w0 w w' O r F { s1 with h := (s1.h.make (.pair a d)).1 } ∧ W.heap.size ≤ w'.heap.size ∧ ∀ k, O k → w'.heap[k]? = W.heap[k]? := by
  obtain ⟨hk, F1, h1, h2, h3⟩ := g
  have g : GoR w0 w W O r F s1 := ⟨hk, F1, h1, h2, h3⟩
  refine (ht_cons h1.ht a d).mono ?_
  rintro e w' ⟨rfl, hw⟩
  have hwr := h1.call hw
  obtain ⟨kk, F2, k1, k2⟩ := hwr
  refine ⟨rfl, ⟨hk.trans kk (foot_step h2), F2, k1, fun i hi => (k2 i (Nat.lt_of_lt_of_le hi hk.size)).trans (h2 i hi), fun k ho => ⟨(k2 k (h3 k ho).2.1).2 (h3 k ho).1, Nat.lt_of_lt_of_le (h3 k ho).2.1 kk.size, (h3 k ho).2.2⟩⟩, kk.size, fun k ho => kk.block k (h3 k ho).2.1 (foot_zero.2 ⟨(g.low H ho).1, (h3 k ho).1⟩)⟩
theorem take_rev {l : List Wd} {k : Nat} {x : Wd} (hx : l[k]? = some x) : (l.take (k + 1)).reverse = x :: (l.take k).reverse := by
  obtain ⟨hk, e⟩ := List.getElem?_eq_some_iff.1 hx
  rw [List.take_succ_eq_append_getElem hk, e, List.reverse_append]
  rfl
set_option maxHeartbeats 2000000 in
theorem chain_any (h : RdAt w0 w r F s) {v : Value} {l : List Wd} (hv : PartsAt w r F v l) (hl : l.length ≤ 200000) (last : Wd) (st : Int) :
    Calls Tryz.prog 218 #[rp r, .int .i64 st, v, wv last] w fun e w' => Does w0 w r F (chainO st s l.reverse last) e w' := by
  obtain ⟨a, cap, rfl, hc⟩ := hv
  obtain ⟨n, hn⟩ : ∃ n, l.length = n := ⟨_, rfl⟩
  have HC := Lib.hid hc
  have H := Lib.hid h
  have HN := Lib.hid hn
  rw [hn] at hl
  rw [hn]
  clear hc h hn
  go_enter Tryz.func218, Tryz.ntmps218
  go_wp2_with fail
  go_loopw [9] (fun u9 wr => ∃ (j : Nat) (x : Wd) (s1 : Rs), u9 = .int .i64 ((j : Int) - 1) ∧ j ≤ n ∧ Hid (GoR w0 w wr (fun k => k = w.heap.size ∨ k = w.heap.size + 1) r F s1 ∧ wr.heap[w.heap.size]? = some (wob x) ∧ wr.heap[w.heap.size + 1]? = some (wob (0, 0)) ∧ chainO st s1 (l.take j).reverse x = chainO st s l.reverse last)) (fun u _ => (RowKit.intOf u + 1).toNat)
  case atStart =>
    have b2 : Below w.heap.size w ((w.alloc (.cells #[.int .i64 last.1, .int .i64 last.2] 28)).alloc (.cells #[.int .i64 0, .int .i64 0] 28)) := ((Below.refl _ _).alloc (Nat.le_refl _) _).alloc (by simp) _
    refine ⟨n, last, s, rfl, Nat.le_refl _, Lib.hid ⟨GoR.of H.out b2 ?_, ?_, ?_, by rw [List.take_of_length_le (by rw [HN.out]; exact Nat.le_refl _)]⟩⟩
    · rintro k (rfl | rfl) <;> (simp; try omega)
    · rw [Below.heap_alloc _ _ _ (by simp)]; exact alloc_at w _
    · have := alloc_at (w.alloc (.cells #[.int .i64 last.1, .int .i64 last.2] 28)) (.cells #[.int .i64 0, .int .i64 0] 28)
      simpa using this
  case round =>
    obtain ⟨j, x, s1, rfl, hj, HI⟩ := hrel
    cases j with
    | zero =>
      have he : chainO st s l.reverse last = .ok x s1 := by rw [← HI.out.2.2.2]; rfl
      have HG := Lib.hid he
      have a0 : wr.cell? ⟨w.heap.size, 0, none⟩ = some (.int .i64 x.1) := cell_at HI.out.2.1
      have a1 : wr.cell? ⟨w.heap.size, 1, none⟩ = some (.int .i64 x.2) := cell_at HI.out.2.1
      have b0 : wr.cell? ⟨w.heap.size + 1, 0, none⟩ = some (.int .i64 0) := cell_at HI.out.2.2.1
      have b1 : wr.cell? ⟨w.heap.size + 1, 1, none⟩ = some (.int .i64 0) := cell_at HI.out.2.2.1
      have f0 : wr.frozen? ⟨w.heap.size + 1, 0, none⟩ = false := frozen_at HI.out.2.2.1
      have f1 : wr.frozen? ⟨w.heap.size + 1, 1, none⟩ = false := frozen_at HI.out.2.2.1
      clear he
      go_wp2
      refine bodyPost_ret (v := wv x) ?_ rfl (by rw [HG.out]; exact ⟨rfl, ((HI.out.1.poke H.out (.inr rfl) 0 _).poke H.out (.inr rfl) 1 _).went⟩)
      simp [results, Tryz.results218, go_sem, b0, b1]
    | succ k =>
      obtain ⟨y, hy⟩ : ∃ y, l[k]? = some y := ⟨l[k]'(by have := HN.out; omega), List.getElem?_eq_getElem _⟩
      obtain ⟨gb, off, rfl, hg, hfg, hgp, ca0, ca1⟩ := HC.out k y hy
      have cb0 : wr.cell? ⟨gb, off + k * 2, none⟩ = some (.int .i64 y.1) := (World.cell?_of_block (HI.out.1.keeps.block gb hg (foot_zero.2 ⟨hgp, hfg⟩))).trans ca0
      have cb1 : wr.cell? ⟨gb, off + k * 2 + 1, none⟩ = some (.int .i64 y.2) := (World.cell?_of_block (HI.out.1.keeps.block gb hg (foot_zero.2 ⟨hgp, hfg⟩))).trans ca1
      have a0 : wr.cell? ⟨w.heap.size, 0, none⟩ = some (.int .i64 x.1) := cell_at HI.out.2.1
      have a1 : wr.cell? ⟨w.heap.size, 1, none⟩ = some (.int .i64 x.2) := cell_at HI.out.2.1
      have c0 : wr.cell? ⟨r.pb, 0, none⟩ = some (hptr r.hb) := by obtain ⟨_, F1, q, _⟩ := HI.out.1; exact cell_at q.own
      have hlo : w.heap.size ≤ wr.heap.size := HI.out.1.keeps.size
      have hy2 := take_rev hy
      have HE := HI.out.2.2.2
      rw [hy2] at HE
      have HCH := Lib.hid HE
      have z0 := lt_at HI.out.2.1
      have z1 : gb < wr.heap.size := by omega
      have z2 : r.pb < wr.heap.size := by have := H.out.lt; omega
      have hnk : (k : Int) < (n : Int) := by omega
      have hk0 : (0 : Int) ≤ (k : Int) := by omega
      rw [show (((k + 1 : Nat) : Int) - 1) = (k : Int) by omega]
      clear hy hy2 HE ca0 ca1 hg hfg hgp
      go_wp2_with fail
      obtain ⟨h', y', er, hmk⟩ : ∃ h' y' er, s1.h.make (.pair y x) = (h', y', er) := ⟨_, _, _, rfl⟩
      have HMK := Lib.hid hmk
      clear hmk
      go_cut [10, 11] (fun s10 s11 wc => ∃ cb : Nat, s10 = .pointer (some ⟨cb, 0, none⟩) ∧ s11 = .int .i64 er ∧ GoR w0 w wc (fun k => (k = w.heap.size ∨ k = w.heap.size + 1) ∨ k = cb) r F { s1 with h := h' } ∧ wc.heap[cb]? = some (wob y') ∧ wc.heap[w.heap.size]? = some (wob x) ∧ wc.heap[w.heap.size + 1]? = some (wob (0, 0)) ∧ cb ≠ w.heap.size ∧ cb ≠ w.heap.size + 1)
      case first =>
        have hd : GoR w0 w wr.drew (fun k => k = w.heap.size ∨ k = w.heap.size + 1) r F s1 := HI.out.1.junk (Below.drew (Below.refl _ _))
        have ha : GoR w0 w (wr.alloc (.cells #[.int .i64 0, .int .i64 0] 28)).drew (fun k => (k = w.heap.size ∨ k = w.heap.size + 1) ∨ k = wr.heap.size) r F s1 := (HI.out.1.add ((Below.refl _ _).alloc (Nat.le_refl _) _) (Nat.le_refl _) (by simp)).junk (Below.drew (Below.refl _ _))
        have C1 := cons_go H.out hd y x
        have C2 := cons_go H.out ha y x
        rw [HMK.out] at C1 C2
        have HC1 := Lib.hid C1
        have HC2 := Lib.hid C2
        clear C1 C2 hd ha
        go_region_with (go_at_call 87; first
          | (with_reducible refine HC1.out.mono ?_
             rintro e W5 ⟨rfl, g5, hz5, hk5⟩
             have H5 := Lib.hid (And.intro g5 (And.intro hz5 hk5))
             clear g5 hz5 hk5)
          | (with_reducible refine HC2.out.mono ?_
             rintro e W5 ⟨rfl, g5, hz5, hk5⟩
             have k9 : W5.heap[wr.heap.size]? = some (wob (0, 0)) := (hk5 _ (.inr rfl)).trans (alloc_at wr _)
             have d0 : W5.cell? ⟨wr.heap.size, 0, none⟩ = some (.int .i64 0) := cell_at k9
             have d1 : W5.cell? ⟨wr.heap.size, 1, none⟩ = some (.int .i64 0) := cell_at k9
             have e0 : W5.frozen? ⟨wr.heap.size, 0, none⟩ = false := frozen_at k9
             have e1 : W5.frozen? ⟨wr.heap.size, 1, none⟩ = false := frozen_at k9
             have H5 := Lib.hid (And.intro g5 (And.intro hz5 (And.intro hk5 k9)))
             clear g5 hz5 hk5 k9))
        all_goals (go_wp2_with fail; go_meet)
        all_goals first
          | (have q1 := H5.out.2.2 w.heap.size (.inl rfl)
             have q2 := H5.out.2.2 (w.heap.size + 1) (.inr rfl)
             have q3 := H5.out.2.1
             have z5 := lt_at HI.out.2.2.1
             have q3' : wr.heap.size ≤ W5.heap.size := q3
             exact ⟨W5.heap.size, rfl, rfl, H5.out.1.add ((Below.refl _ _).alloc (Nat.le_refl _) _) (Nat.le_refl _) (by simp), alloc_at W5 _, (Below.heap_alloc _ _ _ (by omega)).trans (q1.trans HI.out.2.1), (Below.heap_alloc _ _ _ (by omega)).trans (q2.trans HI.out.2.2.1), by omega, by omega⟩)
          | (have z5 := lt_at HI.out.2.2.1
             have q1 := (H5.out.2.2.1 w.heap.size (.inl (.inl rfl))).trans (Below.heap_alloc wr (.cells #[.int .i64 0, .int .i64 0] 28) _ z0)
             have q2 := (H5.out.2.2.1 (w.heap.size + 1) (.inl (.inr rfl))).trans (Below.heap_alloc wr (.cells #[.int .i64 0, .int .i64 0] 28) _ z5)
             have n1 : w.heap.size ≠ wr.heap.size := by omega
             have n2 : w.heap.size + 1 ≠ wr.heap.size := by omega
             refine ⟨wr.heap.size, rfl, rfl, (H5.out.1.poke H.out (.inr rfl) 0 _).poke H.out (.inr rfl) 1 _, ?_, ?_, ?_, n1.symm, n2.symm⟩
             · have := setCell_at (i := 1) (setCell_at (i := 0) H5.out.2.2.2 (.int .i64 y'.1)) (.int .i64 y'.2)
               simpa using this
             · rw [setCell_off _ n1, setCell_off _ n1]; exact q1.trans HI.out.2.1
             · rw [setCell_off _ n2, setCell_off _ n2]; exact q2.trans HI.out.2.2.1)
      case rest =>
        obtain ⟨cb, rfl, rfl, gc, kc, kl, kr, n1, n2⟩ := hcut
        have r0 : wc.cell? ⟨cb, 0, none⟩ = some (.int .i64 y'.1) := cell_at kc
        have r1 : wc.cell? ⟨cb, 1, none⟩ = some (.int .i64 y'.2) := cell_at kc
        have l0 : wc.cell? ⟨w.heap.size, 0, none⟩ = some (.int .i64 x.1) := cell_at kl
        have l1 : wc.cell? ⟨w.heap.size, 1, none⟩ = some (.int .i64 x.2) := cell_at kl
        have f0 : wc.frozen? ⟨w.heap.size, 0, none⟩ = false := frozen_at kl
        have f1 : wc.frozen? ⟨w.heap.size, 1, none⟩ = false := frozen_at kl
        have HX := Lib.hid (And.intro gc (And.intro kl (And.intro kr (And.intro n1 n2))))
        clear gc kc kl kr n1 n2
        by_cases he : er = 0
        · subst he
          have hch : chainO st s1 (y :: (l.take k).reverse) x = chainO st { s1 with h := h' } (l.take k).reverse y' := by
            conv => lhs; unfold chainO
            unfold makeO
            rw [HMK.out]
            simp
          have HH := Lib.hid (hch.symm.trans HCH.out)
          clear hch
          go_wp2
          go_roundw
          case rel =>
            refine ⟨k, y', { s1 with h := h' }, by go_num, by omega, Lib.hid ⟨((HX.out.1.poke H.out (.inl (.inl rfl)) 0 _).poke H.out (.inl (.inl rfl)) 1 _).mono fun _ h => .inl h, ?_, ?_, HH.out⟩⟩
            · have := setCell_at (i := 1) (setCell_at (i := 0) HX.out.2.1 (.int .i64 y'.1)) (.int .i64 y'.2)
              simpa using this
            · rw [setCell_off _ (by simp), setCell_off _ (by simp)]; exact HX.out.2.2.1
          case measure => simp [RowKit.intOf]
        · have hch : chainO st s l.reverse last = .bad er st { s1 with h := h' } := by
            rw [← HCH.out]
            unfold chainO makeO
            rw [HMK.out]
            simp [he]
          have HH := Lib.hid hch
          have he2 : (er != 0) = true := by simpa using he
          clear hch
          go_wp2_with fail
          refine (fault_any er st _).mono ?_
          rintro e W6 ⟨rfl, hb⟩
          have HB := Lib.hid hb
          clear hb
          go_wp2
          refine ⟨rfl, ?_⟩
          rw [HH.out]
          exact ⟨rfl, (HX.out.1.junk HB.out).went.bad⟩
end
end Go.Proofs.YtbbopdkbokbafaaGreatDoor
