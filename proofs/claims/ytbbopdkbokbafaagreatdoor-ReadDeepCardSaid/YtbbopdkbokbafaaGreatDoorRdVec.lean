/- The contract of the reader's vector. -/
import Derived.Test.YtbbopdkbokbafaaGreatDoorRdList
namespace Go.Proofs.YtbbopdkbokbafaaGreatDoor
open Go.RowKit Go.Lib
/-- What holds at the head of a vector's rounds. -/
structure VecI (w0 w wr : World) (r : Rd) (F : Nat → Nat) (s : Rs) (v : Value) (acc : List Wd) (s1 : Rs) : Prop where
  go : GoR w0 w wr (fun j => j = w.heap.size ∨ v.ownBlock = some j) r F { s1 with pos := skipTo r.L s1.pos }
  row : wr.ownsRow 0 28 2 v acc.length (wcells acc)
  n1 : v.ownBlock ≠ some w.heap.size
  res : wr.heap[w.heap.size]? = some (wob (0, 0))
  len : acc.length ≤ s1.pos
  pos : s.pos + 1 ≤ s1.pos
  le : s1.pos ≤ r.L.length
  opn : s1.opn = s.opn + 1
section
variable {w0 w : World} {r : Rd} {F : Nat → Nat} {s : Rs} {o : Out Wd}
theorem vector_deep (h : RdAt w0 w r F s) (ho : s.opn = 200) :
    Calls Tryz.prog 158 #[rp r] w fun e w' => e = Panics 12 s.pos ∧ BadR w0 w w' r F s := by
  have H := Lib.hid h
  have cE := enter_deep (h.junk (wz_below w)) ho 1
  clear h
  go_enter Tryz.func158, Tryz.ntmps158
  go_wp2_with fail
  refine cE.mono ?_
  rintro e W ⟨rfl, hb⟩
  have HB := Lib.hid hb
  clear hb
  go_wp2
  exact ⟨rfl, rfl, (((WentR.of_below H.out (wz_below w)).junk HB.out).bad)⟩
theorem vec_go {W : World} {O : Nat → Prop} {s1 : Rs} (H : RdAt w0 w r F s) (g : GoR w0 w W O r F s1) {v : Value} {l : List Wd} (hv : W.ownsRow 0 28 2 v l.length (wcells l)) (hl : l.length ≤ 65536) :
    Calls Tryz.prog 219 #[hptr r.hb, v] W fun e w' => e = .returned (.tuple #[wv (s1.h.make (.vec l)).2.1, .int .i64 (s1.h.make (.vec l)).2.2]) ∧ Stood w0 w W w' O r F { s1 with h := (s1.h.make (.vec l)).1 } := by
  obtain ⟨F1, h1, h2, _⟩ := g.step H
  have hs : Src W 2 v l.length (wcells l) := by
    rcases hv.2 with ⟨h3, h4⟩ | ⟨g, cap, cur, h3, _⟩
    · exact .inl ⟨h3, h4, by rw [List.length_eq_zero_iff.1 h4]; rfl⟩
    · exact .inr ⟨⟨g, 0, none⟩, cap, h3, by rw [wcells_length], hv.cells (g := g) (by rw [h3]; rfl)⟩
  refine (ht_vec h1.ht hs (fun k hk => (hv.lt k hk).2) hl).mono ?_
  rintro e w' ⟨rfl, hw⟩
  exact ⟨rfl, h2 _ _ (h1.call hw)⟩
set_option maxHeartbeats 4000000 in
theorem vector_any (h : RdAt w0 w r F s) (n m : Nat) (hp : s.pos + 1 ≤ r.L.length) (hF : FormOk w0 r n (s.pos + 1)) (hfi : RdFine r.L (formO r.L n) (s.pos + 1)) (ho : s.opn ≠ 200) (hL65 : r.L.length ≤ 65536) (hl : itemsO r.L (formO r.L n) m { s with opn := s.opn + 1, pos := s.pos + 1 } [] ≠ .lost)  :
    Calls Tryz.prog 158 #[rp r] w fun e w' => Does w0 w r F (vectorO r.L (formO r.L n) m s) e w' := by
  have H := Lib.hid h
  have g0 : GoR w0 w (wz w) (fun k => k = w.heap.size) r F s := GoR.of h (wz_below w) (by rintro k rfl; simp)
  have cE := mv_go h g0 fun F1 h1 => enter_ok h1 ho 1 hp
  have HF := Lib.hid hF
  have HI := Lib.hid hfi
  have HL := Lib.hid hl
  have HO := Lib.hid ho
  have HPp := Lib.hid hp
  have H65 := Lib.hid hL65
  clear h g0 hF hfi hl ho hp hL65
  go_enter Tryz.func158, Tryz.ntmps158
  go_wp2_with fail
  refine cE.mono ?_
  rintro e W ⟨rfl, hm⟩
  have HM := Lib.hid hm
  have cM := mv_go H.out hm.go fun F1 h1 => more_any h1
  clear hm cE
  go_wp2_with fail
  refine cM.mono ?_
  rintro e W3 ⟨rfl, hs3⟩
  have hI : VecI w0 w W3 r F s (.slice none 0 0) [] { s with opn := s.opn + 1, pos := s.pos + 1 } := ⟨hs3.go.mono (by rintro j (hj | hj); exact hj; cases hj), World.ownsRow_nil W3 0 _ _, (by simp [Value.ownBlock]), (hs3.block _ rfl).trans ((HM.out.block _ rfl).trans (wz_at w)), Nat.zero_le _, Nat.le_refl _, HPp.out, rfl⟩
  have HI0 := Lib.hid hI
  clear hI hs3 cM
  go_wp2_with fail
  go_loopw [4] (fun v wr => ∃ (k : Nat) (acc : List Wd) (s1 : Rs) (av : Option Addr) (nv cv : Nat), v = .slice av nv cv ∧ Hid (VecI w0 w wr r F s (.slice av nv cv) acc s1 ∧ acc.length = nv) ∧ Hid (itemsO r.L (formO r.L n) k s1 acc = itemsO r.L (formO r.L n) m { s with opn := s.opn + 1, pos := s.pos + 1 } [])) (fun _ wr => r.L.length - posIn wr r.pb)
  case atStart => exact ⟨m, [], _, none, 0, 0, rfl, Lib.hid ⟨HI0.out, rfl⟩, Lib.hid rfl⟩
  case round =>
    obtain ⟨k, acc, s1, av, nv, cv, rfl, HXN, HE⟩ := hrel
    have HX := Lib.hid HXN.out.1
    have hk : 0 < k := by
      rcases Nat.eq_zero_or_pos k with e | e
      · subst e; exact absurd HE.out.symm HL.out
      · exact e
    obtain ⟨k, rfl⟩ : ∃ j, k = j + 1 := ⟨k - 1, by omega⟩
    have cQ := same_go H.out HX.out.go fun F1 h1 => peek_any h1
    have hposI : posIn wr r.pb = skipTo r.L s1.pos := by obtain ⟨F1, h1, _⟩ := HX.out.go.step H.out; exact h1.posIn
    have HPI := Lib.hid hposI
    have hle : skipTo r.L s1.pos ≤ r.L.length := skipTo_le HX.out.le
    have hlen : acc.length ≤ 65536 := by have := HX.out.len; have := HX.out.le; have := H65.out; omega
    clear hposI hk
    simp only at cQ
    by_cases h93 : ch r.L (skipTo r.L s1.pos) = 93
    · have hE2 : itemsO r.L (formO r.L n) m { s with opn := s.opn + 1, pos := s.pos + 1 } [] = .ok acc { s1 with pos := skipTo r.L s1.pos } := by rw [← HE.out]; unfold itemsO; rw [if_pos h93]
      have hVO : vectorO r.L (formO r.L n) m s = makeO { s1 with opn := s1.opn - 1, pos := skipTo r.L s1.pos + 1 } (.vec acc) s.pos := by
        unfold vectorO
        rw [if_neg HO.out, hE2]
      have hlt : skipTo r.L s1.pos + 1 ≤ r.L.length := ch_lt (by rw [h93]; decide)
      have cL := mv_go H.out HX.out.go fun F1 h1 => leave_any h1 1 hlt (by have := HX.out.opn; show 0 < s1.opn; omega)
      rw [h93] at cQ
      have HVO := Lib.hid hVO
      clear h93 hE2 hVO
      go_wp2_with fail
      refine cQ.mono ?_
      rintro e w'' ⟨rfl, rfl⟩
      clear cQ
      go_wp2_with fail
      refine cL.mono ?_
      rintro e W5 ⟨rfl, hs5⟩
      have hrow5 : W5.ownsRow 0 28 2 (.slice av nv cv) acc.length (wcells acc) := by
        have hrw : Row _ (fun j => if (Value.slice av nv cv).ownBlock = some j then 7 else 0) 7 28 2 (.slice av nv cv) acc.length (wcells acc) := ⟨HX.out.row, fun j hj => if_pos hj⟩
        exact (hrw.keep (w' := W5) (G' := fun j => if (Value.slice av nv cv).ownBlock = some j then 7 else 0) (fun j _ hj => hs5.block j (.inr (by
          by_cases e : (Value.slice av nv cv).ownBlock = some j
          · exact e
          · rw [if_neg e] at hj; cases hj))) (fun _ _ e => e)).own
      have cC := vec_go H.out hs5.go hrow5 hlen
      have c0 : W5.cell? ⟨r.pb, 0, none⟩ = some (hptr r.hb) := by obtain ⟨F1, h1, _⟩ := hs5.go.step H.out; exact cell_at h1.own
      have k0 : W5.heap[w.heap.size]? = some (wob (0, 0)) := (hs5.block _ (.inl rfl)).trans HX.out.res
      obtain ⟨h', y, er, hmk⟩ : ∃ h' y er, s1.h.make (.vec acc) = (h', y, er) := ⟨_, _, _, rfl⟩
      simp only at cC
      rw [hmk] at cC
      have hs5g := hs5.go
      have hmv : vectorO r.L (formO r.L n) m s = if er ≠ 0 then .bad er s.pos { s1 with opn := s1.opn - 1, pos := skipTo r.L s1.pos + 1, h := h' } else .ok y { s1 with opn := s1.opn - 1, pos := skipTo r.L s1.pos + 1, h := h' } := by
        rw [HVO.out]
        unfold makeO
        simp only [hmk]
      have her : er ≠ 0 → er = 7 := by
        intro hne
        have : (s1.h.make (.vec acc)).2.2 = er := by rw [hmk]
        unfold Hp.make at this
        split at this
        · exact this.symm
        · exact absurd this.symm hne
      have HMV := Lib.hid hmv
      have HC := Lib.hid cC
      have HK := Lib.hid k0
      have HER := Lib.hid her
      clear hs5 hrow5 cC k0 cL hs5g hmv hmk her
      go_wp2_with fail
      refine HC.out.mono ?_
      rintro e W6 ⟨rfl, hs6⟩
      have k6 : W6.heap[w.heap.size]? = some (wob (0, 0)) := (hs6.block _ (.inl rfl)).trans HK.out
      have b7 : Below W6.heap.size W6 (W6.alloc (.cells #[.int .i64 y.1, .int .i64 y.2] 28)) := (Below.refl _ _).alloc (Nat.le_refl _) _
      have k7 : (W6.alloc (.cells #[.int .i64 y.1, .int .i64 y.2] 28)).heap[w.heap.size]? = some (wob (0, 0)) := (Below.heap_alloc _ _ _ (lt_at k6)).trans k6
      have d0 : (W6.alloc (.cells #[.int .i64 y.1, .int .i64 y.2] 28)).cell? ⟨w.heap.size, 0, none⟩ = some (.int .i64 0) := cell_at k7
      have d1 : (W6.alloc (.cells #[.int .i64 y.1, .int .i64 y.2] 28)).cell? ⟨w.heap.size, 1, none⟩ = some (.int .i64 0) := cell_at k7
      have e0 : (W6.alloc (.cells #[.int .i64 y.1, .int .i64 y.2] 28)).frozen? ⟨w.heap.size, 0, none⟩ = false := frozen_at k7
      have e1 : (W6.alloc (.cells #[.int .i64 y.1, .int .i64 y.2] 28)).frozen? ⟨w.heap.size, 1, none⟩ = false := frozen_at k7
      have HS := Lib.hid (hs6.go.junk b7)
      clear hs6 k6 b7 k7
      by_cases he : er = 0
      · subst he
        go_wp2
        refine bodyPost_ret (v := wv y) ?_ rfl (by rw [HMV.out, if_neg (by decide)]; exact ⟨rfl, HS.out.fill H.out (.inl rfl) _ _⟩)
        simp [results, Tryz.results158, go_sem, d0, d1]
      · have he2 : (er != 0) = true := by simpa using he
        have he7 := HER.out he
        have HE0 := Lib.hid he
        clear he
        go_wp2_with fail
        refine (fault_any 7 s.pos _).mono ?_
        rintro e W8 ⟨rfl, hb8⟩
        have HB8 := Lib.hid hb8
        clear hb8
        go_wp2
        refine ⟨rfl, ?_⟩
        rw [HMV.out, if_pos HE0.out, he7]
        exact ⟨rfl, (HS.out.junk HB8.out).went.bad⟩
    · have h93b : (ch r.L (skipTo r.L s1.pos) != 93) = true := by simpa using h93
      have hpp : s.pos + 1 ≤ skipTo r.L s1.pos := by have := HX.out.pos; have := skipTo_ge r.L s1.pos; omega
      have hfif := HI.out { s1 with pos := skipTo r.L s1.pos } hpp hle
      have hfl : formO r.L n { s1 with pos := skipTo r.L s1.pos } ≠ .lost := fun e => by rw [e] at hfif; exact hfif
      have cF := does_go H.out HX.out.go fun F1 h1 => HF.out F1 _ _ h1 hpp hfl
      have hEs : (match formO r.L n { s1 with pos := skipTo r.L s1.pos } with | .ok x s' => itemsO r.L (formO r.L n) k s' (acc ++ [x]) | .bad er a s' => .bad er a s' | .lost => .lost) = itemsO r.L (formO r.L n) m { s with opn := s.opn + 1, pos := s.pos + 1 } [] := by
        rw [← HE.out]
        conv => rhs; unfold itemsO
        rw [if_neg h93]
        cases formO r.L n { s1 with pos := skipTo r.L s1.pos } <;> rfl
      generalize hto : formO r.L n { s1 with pos := skipTo r.L s1.pos } = o3 at *
      have HEs := Lib.hid hEs
      have HFI := Lib.hid hfif
      have HCF := Lib.hid cF
      generalize ch r.L (skipTo r.L s1.pos) = c1 at *
      clear hEs hfif cF hfl h93 hto hpp
      go_wp2_with fail
      refine cQ.mono ?_
      rintro e w'' ⟨rfl, rfl⟩
      clear cQ
      go_wp2_with fail
      refine (HCF.out).mono ?_
      intro e W4 hD4
      cases o3 with
      | lost => exact HFI.out.elim
      | bad er a s' =>
        obtain ⟨rfl, hb4⟩ := hD4
        have HB4 := Lib.hid hb4
        clear hb4
        go_wp2
        refine ⟨rfl, ?_⟩
        unfold vectorO
        rw [if_neg HO.out, ← HEs.out]
        exact ⟨rfl, HB4.out⟩
      | ok x s' =>
        obtain ⟨rfl, hs4⟩ := hD4
        have hrw : Row _ (fun j => if (Value.slice av nv cv).ownBlock = some j then 7 else 0) 7 28 2 (.slice av nv cv) acc.length (wcells acc) := ⟨HX.out.row, fun j hj => if_pos hj⟩
        have hblk : ∀ j, (if (Value.slice av nv cv).ownBlock = some j then 7 else 0) = 7 → (Value.slice av nv cv).ownBlock = some j := fun j hj => by
          by_cases e : (Value.slice av nv cv).ownBlock = some j
          · exact e
          · rw [if_neg e] at hj; cases hj
        have hrow : Row (W4.alloc (.cells #[.int .i64 x.1, .int .i64 x.2] 28)) (fun j => if (Value.slice av nv cv).ownBlock = some j then 7 else 0) 7 28 2 (.slice av nv cv) nv (wcells acc) := by
          have := hrw.keep (w' := W4.alloc (.cells #[.int .i64 x.1, .int .i64 x.2] 28)) (G' := fun j => if (Value.slice av nv cv).ownBlock = some j then 7 else 0) (fun j hj0 hj => (Below.heap_alloc _ _ _ (Nat.lt_of_lt_of_le hj0 hs4.size)).trans (hs4.block j (.inr (hblk j hj)))) (fun _ _ e => e)
          rw [HXN.out.2] at this
          exact this
        have g5 := hs4.go.junk ((Below.refl W4.heap.size W4).alloc (Nat.le_refl _) (.cells #[.int .i64 x.1, .int .i64 x.2] 28))
        have r0 : (W4.alloc (.cells #[.int .i64 x.1, .int .i64 x.2] 28)).heap[w.heap.size]? = some (wob (0, 0)) := (Below.heap_alloc _ _ _ (Nat.lt_of_lt_of_le (lt_at HX.out.res) hs4.size)).trans ((hs4.block _ (.inl rfl)).trans HX.out.res)
        have HG := Lib.hid (And.intro g5 r0)
        have hz4 := hs4.size
        have hz1 := lt_at HX.out.res
        have HZ := Lib.hid (And.intro hz4 hz1)
        obtain ⟨i0, hi, hy0, hy1, hy2⟩ := info_parts info_word
        have hnv : nv ≤ 100000 := by have := HXN.out.2; omega
        clear hs4 hrw hblk g5 r0 hz4 hz1
        go_wp2_with (at_builtin; refine wpList_append_row _ rfl _ _ 36 rfl 28 i0 (.agg #[.int .i64 0, .int .i64 0]) 2 16 Tryz.underlying36 hi hy0 hy1 hy2 rfl (by decide) _ _ _ rfl _ 7 hrow ⟨W4.heap.size, 0, none⟩ 1 1 [.int .i64 x.1, .int .i64 x.2] rfl rfl ?c1 ?c2 ?c3 ?c4 ?_)
        case c1 =>
          intro j u hj
          match j, hj with
          | 0, hj => simp at hj; subst hj; simp [Addr.add]
          | 1, hj => simp at hj; subst hj; simp [Addr.add]
          | (j + 2), hj => simp at hj
        case c2 => intro u hu; simp at hu; rcases hu with rfl | rfl <;> rfl
        case c3 => unfold maxLen; omega
        case c4 => omega
        intro v' w7 hrow7 hgr7 _
        obtain ⟨av7, cv7, rfl⟩ := own_slice hrow7.own
        have hnew : ∀ j, (Value.slice av7 (nv + 1) cv7).ownBlock = some j → (Value.slice av nv cv).ownBlock = some j ∨ (W4.heap.size + 1 ≤ j ∧ j < w7.heap.size) := fun j hj => by
          have h1 : (if j < W4.heap.size + 1 then (if (Value.slice av nv cv).ownBlock = some j then 7 else 0) else 7) = 7 := by have := hrow7.lab j hj; simpa using this
          have h2 := (hrow7.own.lt j hj).2
          by_cases e : j < W4.heap.size + 1
          · rw [if_pos e] at h1
            left
            by_cases e2 : (Value.slice av nv cv).ownBlock = some j
            · exact e2
            · rw [if_neg e2] at h1; cases h1
          · right
            exact ⟨by omega, h2⟩
        have g7 := HG.out.1.grown H.out hgr7 (fun j hj => .inr hj)
        have hne1 : ∀ j, j < W4.heap.size → (Value.slice av nv cv).ownBlock ≠ some j → w7.heap[j]? = (W4.alloc (.cells #[.int .i64 x.1, .int .i64 x.2] 28)).heap[j]? := fun j hj hne => hgr7.block j (by simp; omega) (fun e => hne e.symm)
        have k0 : w7.heap[w.heap.size]? = some (wob (0, 0)) := (hne1 _ (Nat.lt_of_lt_of_le HZ.out.2 HZ.out.1) HX.out.n1).trans HG.out.2
        have m1 : (Value.slice av7 (nv + 1) cv7).ownBlock ≠ some w.heap.size := fun e => by
          rcases hnew _ e with e | e
          · exact HX.out.n1 e
          · have := HZ.out.1; have := HZ.out.2; omega
        have hfr : (acc ++ [x]).length = nv + 1 := by rw [List.length_append, HXN.out.2]; rfl
        have hfi2 := HFI.out
        have g8 : GoR w0 w w7 (fun j => j = w.heap.size ∨ (Value.slice av7 (nv + 1) cv7).ownBlock = some j) r F s' := g7.mono (by
          rintro j (hj | hj)
          · exact .inl (.inl hj)
          · rcases hnew j hj with e | e
            · exact .inl (.inr e)
            · exact .inr ⟨by simp; omega, e.2⟩)
        have cM := mv_go H.out g8 fun F1 h1 => more_any h1
        have HN := Lib.hid (And.intro hrow7.own (And.intro k0 (And.intro m1 (And.intro hfr hfi2))))
        clear hnew g7 hne1 k0 m1 hfr hfi2 g8 hrow7 hgr7 hrow
        go_wp2_with fail
        refine cM.mono ?_
        rintro e w8 ⟨rfl, hs8⟩
        have hI8 : VecI w0 w w8 r F s (.slice av7 (nv + 1) cv7) (acc ++ [x]) s' := by
          refine ⟨hs8.go, ?_, HN.out.2.2.1, (hs8.block _ (.inl rfl)).trans HN.out.2.1, ?_, ?_, HN.out.2.2.2.2.2.1, ?_⟩
          · have hrw : Row w7 (fun j => if (Value.slice av7 (nv + 1) cv7).ownBlock = some j then 7 else 0) 7 28 2 (.slice av7 (nv + 1) cv7) (nv + 1) (wcells acc ++ [.int .i64 x.1, .int .i64 x.2]) := ⟨HN.out.1, fun j hj => if_pos hj⟩
            have := (hrw.keep (w' := w8) (G' := fun j => if (Value.slice av7 (nv + 1) cv7).ownBlock = some j then 7 else 0) (fun j hj0 hj => hs8.block j (.inr (by
              by_cases e : (Value.slice av7 (nv + 1) cv7).ownBlock = some j
              · exact e
              · rw [if_neg e] at hj; cases hj))) (fun _ _ e => e)).own
            rw [HN.out.2.2.2.1, wcells_append]
            exact this
          · have h1 := HN.out.2.2.2.1; have h2 := HXN.out.2; have h3 := HX.out.len; have h4 : skipTo r.L s1.pos < s'.pos := HN.out.2.2.2.2.1; have h5 := skipTo_ge r.L s1.pos; omega
          · have h3 := HX.out.pos; have h4 : skipTo r.L s1.pos < s'.pos := HN.out.2.2.2.2.1; have h5 := skipTo_ge r.L s1.pos; omega
          · have h3 := HX.out.opn; have h4 : s'.opn = s1.opn := HN.out.2.2.2.2.2.2; omega
        have hpos8 : posIn w8 r.pb = skipTo r.L s'.pos := by obtain ⟨F1, h1, _⟩ := hs8.go.step H.out; exact h1.posIn
        have H8 := Lib.hid (And.intro hI8 hpos8)
        clear hI8 hpos8 hs8 cM
        go_wp2
        go_roundw
        case rel => exact ⟨k, acc ++ [x], s', av7, nv + 1, cv7, rfl, Lib.hid ⟨H8.out.1, HN.out.2.2.2.1⟩, Lib.hid HEs.out⟩
        case measure =>
          rw [HPI.out, H8.out.2]
          have h4 : skipTo r.L s1.pos < s'.pos := HN.out.2.2.2.2.1
          have h5 := skipTo_ge r.L s'.pos
          have h6 : s'.pos ≤ r.L.length := HN.out.2.2.2.2.2.1
          omega
end
end Go.Proofs.YtbbopdkbokbafaaGreatDoor
