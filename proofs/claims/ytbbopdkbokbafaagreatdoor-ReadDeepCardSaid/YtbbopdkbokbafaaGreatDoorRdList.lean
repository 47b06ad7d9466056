/- The contract of the reader's list. -/
import Derived.Test.YtbbopdkbokbafaaGreatDoorRdTail
import Derived.Test.YtbbopdkbokbafaaGreatDoorRdGrow
namespace Go.Proofs.YtbbopdkbokbafaaGreatDoor
open Go.RowKit Go.Lib
section
variable {w0 w : World} {r : Rd} {F : Nat → Nat} {s : Rs} {o : Out Wd}
theorem list_deep (h : RdAt w0 w r F s) (ho : s.opn = 200) :
    Calls Tryz.prog 157 #[rp r] w fun e w' => e = Panics 12 s.pos ∧ BadR w0 w w' r F s := by
  have H := Lib.hid h
  have cE := enter_deep (h.junk (wz_below w)) ho 1
  clear h
  go_enter Tryz.func157, Tryz.ntmps157
  go_wp2_with fail
  refine cE.mono ?_
  rintro e W ⟨rfl, hb⟩
  have HB := Lib.hid hb
  clear hb
  go_wp2
  exact ⟨rfl, rfl, (((WentR.of_below H.out (wz_below w)).junk HB.out).bad)⟩
/-- What holds at the head of a list's rounds; lb: where the list's last cdr lies. -/
structure ListI (w0 w wr : World) (r : Rd) (F : Nat → Nat) (s : Rs) (lb : Nat) (v : Value) (acc : List Wd) (s1 : Rs) : Prop where
  go : GoR w0 w wr (fun j => (j = w.heap.size ∨ j = lb) ∨ v.ownBlock = some j) r F { s1 with pos := skipTo r.L s1.pos }
  row : wr.ownsRow 0 28 2 v acc.length (wcells acc)
  n1 : v.ownBlock ≠ some w.heap.size
  n2 : v.ownBlock ≠ some lb
  n3 : lb ≠ w.heap.size
  res : wr.heap[w.heap.size]? = some (wob (0, 0))
  last : wr.heap[lb]? = some (wob (1, 0))
  len : acc.length ≤ s1.pos
  pos : s.pos + 1 ≤ s1.pos
  le : s1.pos ≤ r.L.length
  opn : s1.opn = s.opn + 1
theorem ListI.parts {wr : World} {v : Value} {acc : List Wd} {O : Nat → Prop} {W : World} (h : wr.ownsRow 0 28 2 v acc.length (wcells acc)) (hO : ∀ j, v.ownBlock = some j → O j) (hW : ∀ j, v.ownBlock = some j → W.heap[j]? = wr.heap[j]?) :
    ∃ a cap, v = .slice a acc.length cap ∧ ∀ (i : Nat) x, acc[i]? = some x → ∃ gb off, a = some ⟨gb, off, none⟩ ∧ O gb ∧ W.cell? ⟨gb, off + i * 2, none⟩ = some (.int .i64 x.1) ∧ W.cell? ⟨gb, off + i * 2 + 1, none⟩ = some (.int .i64 x.2) := by
  obtain ⟨a, cap, rfl⟩ := own_slice h
  refine ⟨a, cap, rfl, fun i x hx => ?_⟩
  rcases h.2 with ⟨h1, h2⟩ | ⟨g, cap', cur, h1, _⟩
  · have := (List.getElem?_eq_some_iff.1 hx).1
    omega
  · cases h1
    have hrw : Row wr (fun _ => 0) 0 28 2 (.slice (some ⟨g, 0, none⟩) acc.length cap) acc.length (wcells acc) := ⟨h, fun _ _ => rfl⟩
    have e0 := hrw.cell (wcells_fst acc i x hx)
    have e1 := hrw.cell (wcells_snd acc i x hx)
    refine ⟨g, 0, rfl, hO g rfl, ?_, ?_⟩
    · rw [Nat.zero_add]; exact (World.cell?_of_block (w := wr) (w' := W) (a := ⟨g, i * 2, none⟩) (hW g rfl)).trans e0
    · rw [Nat.zero_add]; exact (World.cell?_of_block (w := wr) (w' := W) (a := ⟨g, i * 2 + 1, none⟩) (hW g rfl)).trans e1
set_option maxHeartbeats 4000000 in
theorem list_any (h : RdAt w0 w r F s) (n m : Nat) (hp : s.pos + 1 ≤ r.L.length) (hF : FormOk w0 r n (s.pos + 1)) (hfi : RdFine r.L (formO r.L n) (s.pos + 1)) (ho : s.opn ≠ 200) (hm0 : r.L.length + 1 ≤ m + (s.pos + 1)) (hl : elemsO r.L (formO r.L n) m { s with opn := s.opn + 1, pos := s.pos + 1 } [] ≠ .lost)  :
    Calls Tryz.prog 157 #[rp r] w fun e w' => Does w0 w r F (listO r.L (formO r.L n) m s) e w' := by
  have H := Lib.hid h
  have g0 : GoR w0 w (wz w) (fun k => k = w.heap.size) r F s := GoR.of h (wz_below w) (by rintro k rfl; simp)
  have cE := mv_go h g0 fun F1 h1 => enter_ok h1 ho 1 hp
  have HF := Lib.hid hF
  have HI := Lib.hid hfi
  have HL := Lib.hid hl
  have HO := Lib.hid ho
  have HPp := Lib.hid hp
  have HM0 := Lib.hid hm0
  clear hm0
  clear h g0 hF hfi hl ho hp
  go_enter Tryz.func157, Tryz.ntmps157
  go_wp2_with fail
  refine cE.mono ?_
  rintro e W ⟨rfl, hm⟩
  have HM := Lib.hid hm
  clear hm cE
  go_wp2_with fail
  refine (symbol_any 0 _).mono ?_
  rintro e W1 ⟨rfl, hb⟩
  have HB := Lib.hid hb
  clear hb
  go_wp2_with fail
  have g2 := ((HM.out.go.junk HB.out).add ((Below.refl W1.heap.size W1).alloc (Nat.le_refl _) (.cells #[.int .i64 1, .int .i64 0] 28)) (Nat.le_refl _) (by simp))
  have zl : w.heap.size < W1.heap.size := by obtain ⟨_, _, _, _, q⟩ := (HM.out.go.junk HB.out); exact (q _ rfl).2.1
  have p0 : (W1.alloc (.cells #[.int .i64 1, .int .i64 0] 28)).heap[w.heap.size]? = some (wob (0, 0)) := by
    rw [Below.heap_alloc _ _ _ zl, (HM.out.junk HB.out).block _ rfl]
    exact wz_at w
  have p1 : (W1.alloc (.cells #[.int .i64 1, .int .i64 0] 28)).heap[W1.heap.size]? = some (wob (1, 0)) := alloc_at W1 _
  have cM := mv_go H.out g2 fun F1 h1 => more_any h1
  have HP := Lib.hid (And.intro p0 (And.intro p1 zl))
  clear p0 p1 g2
  refine cM.mono ?_
  rintro e W3 ⟨rfl, hs3⟩
  have hI : ListI w0 w W3 r F s W1.heap.size (.slice none 0 0) [] { s with opn := s.opn + 1, pos := s.pos + 1 } := ⟨hs3.go.mono (by rintro j (hj | hj); exact hj; cases hj), World.ownsRow_nil W3 0 _ _, (by simp [Value.ownBlock]), (by simp [Value.ownBlock]), Nat.ne_of_gt zl, (hs3.block _ (.inl rfl)).trans HP.out.1, (hs3.block _ (.inr rfl)).trans HP.out.2.1, Nat.zero_le _, Nat.le_refl _, HPp.out, rfl⟩
  have HI0 := Lib.hid hI
  clear hI hs3 cM zl
  go_wp2_with fail
  go_loopw [4] (fun v wr => ∃ (k : Nat) (acc : List Wd) (s1 : Rs) (av : Option Addr) (nv cv : Nat), v = .slice av nv cv ∧ Hid (ListI w0 w wr r F s W1.heap.size (.slice av nv cv) acc s1 ∧ acc.length = nv) ∧ Hid (elemsO r.L (formO r.L n) k s1 acc = elemsO r.L (formO r.L n) m { s with opn := s.opn + 1, pos := s.pos + 1 } [])) (fun _ wr => r.L.length - posIn wr r.pb)
  case atStart => exact ⟨m, [], _, none, 0, 0, rfl, Lib.hid ⟨HI0.out, rfl⟩, Lib.hid rfl⟩
  case round =>
    obtain ⟨k, acc, s1, av, nv, cv, rfl, HXN, HE⟩ := hrel
    have HX := Lib.hid HXN.out.1
    have hk : 0 < k := by
      rcases Nat.eq_zero_or_pos k with e | e
      · subst e; exact absurd HE.out.symm HL.out
      · exact e
    obtain ⟨k, rfl⟩ : ∃ j, k = j + 1 := ⟨k - 1, by omega⟩
    have cQ := same_go H.out HX.out.go fun F1 h1 => peek_any h1
    have hposI : posIn wr r.pb = skipTo r.L s1.pos := by obtain ⟨F1, h1, _⟩ := HX.out.go.step H.out; exact h1.posIn
    have HPI := Lib.hid hposI
    have hle : skipTo r.L s1.pos ≤ r.L.length := skipTo_le HX.out.le
    have hlen : acc.length ≤ 100000 := by have := HX.out.len; have := HX.out.le; have := H.out.fix.len; omega
    clear hposI hk
    simp only at cQ
    by_cases h41 : ch r.L (skipTo r.L s1.pos) = 41
    · have hE2 : elemsO r.L (formO r.L n) m { s with opn := s.opn + 1, pos := s.pos + 1 } [] = .ok (acc, (1, 0)) { s1 with pos := skipTo r.L s1.pos } := by rw [← HE.out]; unfold elemsO; rw [if_pos h41]
      have hLO : listO r.L (formO r.L n) m s = chainO s.pos { s1 with opn := s1.opn - 1, pos := skipTo r.L s1.pos + 1 } acc.reverse (1, 0) := by
        unfold listO
        rw [if_neg HO.out, hE2]
      have HR := Lib.hid (And.intro HX.out.go (And.intro HX.out.res (And.intro HX.out.last (And.intro HX.out.row (And.intro hLO (And.intro (show skipTo r.L s1.pos + 1 ≤ r.L.length from ch_lt (by rw [h41]; decide)) (And.intro (show 0 < s1.opn by have := HX.out.opn; omega) (show acc.length ≤ 200000 by omega))))))))
      rw [h41] at cQ
      clear h41 hE2 hLO
      go_wp2_with fail
      refine cQ.mono ?_
      rintro e w'' ⟨rfl, rfl⟩
      clear cQ
      have cL := mv_go H.out HR.out.1 fun F1 h1 => leave_any h1 1 HR.out.2.2.2.2.2.1 HR.out.2.2.2.2.2.2.1
      go_wp2_with fail
      refine cL.mono ?_
      rintro e W5 ⟨rfl, hs5⟩
      have hpt := ListI.parts (W := W5) HR.out.2.2.2.1 (O := fun j => (j = w.heap.size ∨ j = W1.heap.size) ∨ (Value.slice av nv cv).ownBlock = some j) (fun j hj => .inr hj) (fun j hj => hs5.block j (.inr hj))
      have cC := chain_go H.out hs5.go (l := acc) HR.out.2.2.2.2.2.2.2 (1, 0) s.pos hpt
      have k0 : W5.heap[w.heap.size]? = some (wob (0, 0)) := (hs5.block _ (.inl (.inl rfl))).trans HR.out.2.1
      have k1 : W5.heap[W1.heap.size]? = some (wob (1, 0)) := (hs5.block _ (.inl (.inr rfl))).trans HR.out.2.2.1
      have l0 : W5.cell? ⟨W1.heap.size, 0, none⟩ = some (.int .i64 (1, 0).1) := cell_at k1
      have l1 : W5.cell? ⟨W1.heap.size, 1, none⟩ = some (.int .i64 (1, 0).2) := cell_at k1
      have HLO := Lib.hid HR.out.2.2.2.2.1
      have HK := Lib.hid k0
      clear hs5 hpt k0 k1 cL HR
      have hcs := fun st => chainO_some s.pos acc.reverse st (1, 0)
      have hcs2 := hcs { s1 with opn := s1.opn - 1, pos := skipTo r.L s1.pos + 1 }
      clear hcs
      generalize chainO s.pos _ acc.reverse (1, 0) = o2 at cC HLO hcs2
      have HC := Lib.hid cC
      clear cC
      go_wp2_with fail
      refine HC.out.mono ?_
      intro e W6 hD
      cases o2 with
      | lost => exact absurd rfl hcs2
      | bad er a s2 =>
        obtain ⟨rfl, hb2⟩ := hD
        have HB2 := Lib.hid hb2
        clear hb2
        go_wp2
        refine ⟨rfl, ?_⟩
        rw [HLO.out]
        exact ⟨rfl, HB2.out⟩
      | ok y s2 =>
        obtain ⟨rfl, hs6⟩ := hD
        have k6 : W6.heap[w.heap.size]? = some (wob (0, 0)) := (hs6.block _ (.inl (.inl rfl))).trans HK.out
        have d0 : W6.cell? ⟨w.heap.size, 0, none⟩ = some (.int .i64 0) := cell_at k6
        have d1 : W6.cell? ⟨w.heap.size, 1, none⟩ = some (.int .i64 0) := cell_at k6
        have e0 : W6.frozen? ⟨w.heap.size, 0, none⟩ = false := frozen_at k6
        have e1 : W6.frozen? ⟨w.heap.size, 1, none⟩ = false := frozen_at k6
        have HS := Lib.hid hs6.go
        clear hs6 k6
        go_wp2
        refine bodyPost_ret (v := wv y) ?_ rfl (by rw [HLO.out]; exact ⟨rfl, HS.out.fill H.out (.inl (.inl rfl)) _ _⟩)
        simp [results, Tryz.results157, go_sem, d0, d1]
    · have h41b : (ch r.L (skipTo r.L s1.pos) != 41) = true := by simpa using h41
      by_cases hd : 0 < acc.length ∧ atDot r.L (skipTo r.L s1.pos) = true
      · have hd46 : ch r.L (skipTo r.L s1.pos) ≠ -1 := fun e => by
          have := hd.2
          unfold atDot at this
          rw [e] at this
          simp at this
        have hlt := ch_lt hd46
        have cD := same_go H.out HX.out.go fun F1 h1 => atDot_any h1
        simp only at cD
        rw [hd.2] at cD
        have htf := tailO_fine r.L (formO r.L n) { s1 with pos := skipTo r.L s1.pos } (fun s' k1 k2 => HI.out s' (by have := HX.out.pos; have := skipTo_ge r.L s1.pos; simp only at k1; omega) k2) hlt
        have hfl : formO r.L n { s1 with pos := skipTo r.L s1.pos + 1 } ≠ .lost := fun e => by
          have := HI.out { s1 with pos := skipTo r.L s1.pos + 1 } (by have := HX.out.pos; have := skipTo_ge r.L s1.pos; simp only; omega) hlt
          rw [e] at this
          exact this
        have cT := does_go H.out HX.out.go fun F1 h1 => rtail_any h1 n hlt (HF.out.mono (by show s.pos + 1 ≤ skipTo r.L s1.pos + 1; have := HX.out.pos; have := skipTo_ge r.L s1.pos; omega)) hfl
        have hEs : elemsO r.L (formO r.L n) m { s with opn := s.opn + 1, pos := s.pos + 1 } [] = (match tailO r.L (formO r.L n) { s1 with pos := skipTo r.L s1.pos } with | .ok x s' => .ok (acc, x) s' | .bad er a s' => .bad er a s' | .lost => .lost) := by
          rw [← HE.out]
          unfold elemsO
          rw [if_neg h41, if_pos hd]
          cases tailO r.L (formO r.L n) { s1 with pos := skipTo r.L s1.pos } <;> rfl
        have hnv : (0 : Int) < (nv : Int) := by have := hd.1; have := HXN.out.2; omega
        generalize hto : tailO r.L (formO r.L n) { s1 with pos := skipTo r.L s1.pos } = o3 at *
        have HEs := Lib.hid hEs
        have HTF := Lib.hid htf
        generalize ch r.L (skipTo r.L s1.pos) = c1 at *
        clear hEs htf hfl hd hd46 hlt h41 hto
        go_wp2_with fail
        refine cQ.mono ?_
        rintro e w'' ⟨rfl, rfl⟩
        go_wp2_with fail
        refine cD.mono ?_
        rintro e w'' ⟨rfl, rfl⟩
        go_wp2_with fail
        refine cT.mono ?_
        intro e W4 hD4
        cases o3 with
        | lost => exact HTF.out.elim
        | bad er a s' =>
          obtain ⟨rfl, hb4⟩ := hD4
          have HB4 := Lib.hid hb4
          clear hb4
          go_wp2
          refine ⟨rfl, ?_⟩
          unfold listO
          rw [if_neg HO.out, HEs.out]
          exact ⟨rfl, HB4.out⟩
        | ok x s' =>
          obtain ⟨rfl, hs4⟩ := hD4
          have q1 : W4.heap[W1.heap.size]? = some (wob (1, 0)) := (hs4.block _ (.inl (.inr rfl))).trans HX.out.last
          have q0 : W4.heap[w.heap.size]? = some (wob (0, 0)) := (hs4.block _ (.inl (.inl rfl))).trans HX.out.res
          have u0 : W4.cell? ⟨W1.heap.size, 0, none⟩ = some (.int .i64 1) := cell_at q1
          have u1 : W4.cell? ⟨W1.heap.size, 1, none⟩ = some (.int .i64 0) := cell_at q1
          have v0 : W4.frozen? ⟨W1.heap.size, 0, none⟩ = false := frozen_at q1
          have v1 : W4.frozen? ⟨W1.heap.size, 1, none⟩ = false := frozen_at q1
          have gp := (hs4.go.poke H.out (.inl (.inr rfl)) 0 (.int .i64 x.1)).poke H.out (N := W1.heap.size) (.inl (.inr rfl)) 1 (.int .i64 x.2)
          have hE2 := HEs.out
          simp only at hE2
          have hfe := elemsO_fine r.L (formO r.L n) m { s with opn := s.opn + 1, pos := s.pos + 1 } [] HI.out HPp.out HM0.out
          rw [hE2] at hfe
          simp only at hfe
          have hLO : listO r.L (formO r.L n) m s = chainO s.pos { s' with opn := s'.opn - 1, pos := s'.pos + 1 } acc.reverse x := by
            unfold listO
            rw [if_neg HO.out, hE2]
          have hrow : ((W4.setCell ⟨W1.heap.size, 0, none⟩ (.int .i64 x.1)).setCell ⟨W1.heap.size, 1, none⟩ (.int .i64 x.2)).ownsRow 0 28 2 (.slice av nv cv) acc.length (wcells acc) := by
            have hrw : Row _ (fun j => if (Value.slice av nv cv).ownBlock = some j then 7 else 0) 7 28 2 (.slice av nv cv) acc.length (wcells acc) := ⟨HX.out.row, fun j hj => if_pos hj⟩
            refine (hrw.keep (w' := _) (G' := fun j => if (Value.slice av nv cv).ownBlock = some j then 7 else 0) (fun j _ hj => ?_) (fun _ _ e => e)).own
            have hj2 : (Value.slice av nv cv).ownBlock = some j := by
              by_cases e : (Value.slice av nv cv).ownBlock = some j
              · exact e
              · rw [if_neg e] at hj; cases hj
            have hne : j ≠ W1.heap.size := fun e => HX.out.n2 (e ▸ hj2)
            rw [setCell_off _ hne, setCell_off _ hne]
            exact hs4.block j (.inr hj2)
          have hlast : ((W4.setCell ⟨W1.heap.size, 0, none⟩ (.int .i64 x.1)).setCell ⟨W1.heap.size, 1, none⟩ (.int .i64 x.2)).heap[W1.heap.size]? = some (wob x) := by
            have := setCell_at (i := 1) (setCell_at (i := 0) q1 (.int .i64 x.1)) (.int .i64 x.2)
            simpa using this
          have hres : ((W4.setCell ⟨W1.heap.size, 0, none⟩ (.int .i64 x.1)).setCell ⟨W1.heap.size, 1, none⟩ (.int .i64 x.2)).heap[w.heap.size]? = some (wob (0, 0)) := by
            rw [setCell_off _ HX.out.n3.symm, setCell_off _ HX.out.n3.symm]
            exact q0
          have HR := Lib.hid (And.intro gp (And.intro hres (And.intro hlast (And.intro hrow (And.intro hLO (And.intro (show s'.pos + 1 ≤ r.L.length by omega) (And.intro (show 0 < s'.opn by omega) (show acc.length ≤ 200000 by omega))))))))
          clear q0 q1 gp hrow hlast hres hLO hfe hE2 hs4
          have cL := mv_go H.out HR.out.1 fun F1 h1 => leave_any h1 1 HR.out.2.2.2.2.2.1 HR.out.2.2.2.2.2.2.1
          go_wp2_with fail
          refine cL.mono ?_
          rintro e W5 ⟨rfl, hs5⟩
          have hpt := ListI.parts (W := W5) HR.out.2.2.2.1 (O := fun j => (j = w.heap.size ∨ j = W1.heap.size) ∨ (Value.slice av nv cv).ownBlock = some j) (fun j hj => .inr hj) (fun j hj => hs5.block j (.inr hj))
          have cC := chain_go H.out hs5.go (l := acc) HR.out.2.2.2.2.2.2.2 x s.pos hpt
          have k0 : W5.heap[w.heap.size]? = some (wob (0, 0)) := (hs5.block _ (.inl (.inl rfl))).trans HR.out.2.1
          have k1 : W5.heap[W1.heap.size]? = some (wob x) := (hs5.block _ (.inl (.inr rfl))).trans HR.out.2.2.1
          have l0 : W5.cell? ⟨W1.heap.size, 0, none⟩ = some (.int .i64 x.1) := cell_at k1
          have l1 : W5.cell? ⟨W1.heap.size, 1, none⟩ = some (.int .i64 x.2) := cell_at k1
          have HLO := Lib.hid HR.out.2.2.2.2.1
          have HK := Lib.hid k0
          clear hs5 hpt k0 k1 cL HR
          have hcs := fun st => chainO_some s.pos acc.reverse st x
          have hcs2 := hcs { s' with opn := s'.opn - 1, pos := s'.pos + 1 }
          clear hcs
          generalize chainO s.pos _ acc.reverse x = o2 at cC HLO hcs2
          have HC := Lib.hid cC
          clear cC
          go_wp2_with fail
          refine HC.out.mono ?_
          intro e W6 hD
          cases o2 with
          | lost => exact absurd rfl hcs2
          | bad er a s2 =>
            obtain ⟨rfl, hb2⟩ := hD
            have HB2 := Lib.hid hb2
            clear hb2
            go_wp2
            refine ⟨rfl, ?_⟩
            rw [HLO.out]
            exact ⟨rfl, HB2.out⟩
          | ok y s2 =>
            obtain ⟨rfl, hs6⟩ := hD
            have k6 : W6.heap[w.heap.size]? = some (wob (0, 0)) := (hs6.block _ (.inl (.inl rfl))).trans HK.out
            have d0 : W6.cell? ⟨w.heap.size, 0, none⟩ = some (.int .i64 0) := cell_at k6
            have d1 : W6.cell? ⟨w.heap.size, 1, none⟩ = some (.int .i64 0) := cell_at k6
            have e0 : W6.frozen? ⟨w.heap.size, 0, none⟩ = false := frozen_at k6
            have e1 : W6.frozen? ⟨w.heap.size, 1, none⟩ = false := frozen_at k6
            have HS := Lib.hid hs6.go
            clear hs6 k6
            go_wp2
            refine bodyPost_ret (v := wv y) ?_ rfl (by rw [HLO.out]; exact ⟨rfl, HS.out.fill H.out (.inl (.inl rfl)) _ _⟩)
            simp [results, Tryz.results157, go_sem, d0, d1]
      · have hpp : s.pos + 1 ≤ skipTo r.L s1.pos := by have := HX.out.pos; have := skipTo_ge r.L s1.pos; omega
        have hfif := HI.out { s1 with pos := skipTo r.L s1.pos } hpp hle
        have hfl : formO r.L n { s1 with pos := skipTo r.L s1.pos } ≠ .lost := fun e => by rw [e] at hfif; exact hfif
        have cF := does_go H.out HX.out.go fun F1 h1 => HF.out F1 _ _ h1 hpp hfl
        have hEs : (match formO r.L n { s1 with pos := skipTo r.L s1.pos } with | .ok x s' => elemsO r.L (formO r.L n) k s' (acc ++ [x]) | .bad er a s' => .bad er a s' | .lost => .lost) = elemsO r.L (formO r.L n) m { s with opn := s.opn + 1, pos := s.pos + 1 } [] := by
          rw [← HE.out]
          conv => rhs; unfold elemsO
          rw [if_neg h41, if_neg hd]
          cases formO r.L n { s1 with pos := skipTo r.L s1.pos } <;> rfl
        have cD := same_go H.out HX.out.go fun F1 h1 => atDot_any h1
        simp only at cD
        generalize hto : formO r.L n { s1 with pos := skipTo r.L s1.pos } = o3 at *
        have HEs := Lib.hid hEs
        have HFI := Lib.hid hfif
        have HCF := Lib.hid cF
        by_cases hnz : 0 < nv
        · have hnv0 : (0 : Int) < (nv : Int) := by omega
          have hdf : atDot r.L (skipTo r.L s1.pos) = false := by
            have h2 := HXN.out.2
            cases hx : atDot r.L (skipTo r.L s1.pos) with
            | false => rfl
            | true => exact absurd ⟨by omega, hx⟩ hd
          rw [hdf] at cD
          generalize ch r.L (skipTo r.L s1.pos) = c1 at *
          clear hEs hfif cF hfl hd h41 hto hdf hpp
          go_wp2_with fail
          refine cQ.mono ?_
          rintro e w'' ⟨rfl, rfl⟩
          go_wp2_with fail
          refine cD.mono ?_
          rintro e w'' ⟨rfl, rfl⟩
          clear cD cQ
          go_wp2_with fail
          refine (HCF.out).mono ?_
          intro e W4 hD4
          cases o3 with
          | lost => exact HFI.out.elim
          | bad er a s' =>
            obtain ⟨rfl, hb4⟩ := hD4
            have HB4 := Lib.hid hb4
            clear hb4
            go_wp2
            refine ⟨rfl, ?_⟩
            unfold listO
            rw [if_neg HO.out, ← HEs.out]
            exact ⟨rfl, HB4.out⟩
          | ok x s' =>
            obtain ⟨rfl, hs4⟩ := hD4
            have hrw : Row _ (fun j => if (Value.slice av nv cv).ownBlock = some j then 7 else 0) 7 28 2 (.slice av nv cv) acc.length (wcells acc) := ⟨HX.out.row, fun j hj => if_pos hj⟩
            have hblk : ∀ j, (if (Value.slice av nv cv).ownBlock = some j then 7 else 0) = 7 → (Value.slice av nv cv).ownBlock = some j := fun j hj => by
              by_cases e : (Value.slice av nv cv).ownBlock = some j
              · exact e
              · rw [if_neg e] at hj; cases hj
            have hrow : Row (W4.alloc (.cells #[.int .i64 x.1, .int .i64 x.2] 28)) (fun j => if (Value.slice av nv cv).ownBlock = some j then 7 else 0) 7 28 2 (.slice av nv cv) nv (wcells acc) := by
              have := hrw.keep (w' := W4.alloc (.cells #[.int .i64 x.1, .int .i64 x.2] 28)) (G' := fun j => if (Value.slice av nv cv).ownBlock = some j then 7 else 0) (fun j hj0 hj => (Below.heap_alloc _ _ _ (Nat.lt_of_lt_of_le hj0 hs4.size)).trans (hs4.block j (.inr (hblk j hj)))) (fun _ _ e => e)
              rw [HXN.out.2] at this
              exact this
            have g5 := hs4.go.junk ((Below.refl W4.heap.size W4).alloc (Nat.le_refl _) (.cells #[.int .i64 x.1, .int .i64 x.2] 28))
            have r0 : (W4.alloc (.cells #[.int .i64 x.1, .int .i64 x.2] 28)).heap[w.heap.size]? = some (wob (0, 0)) := (Below.heap_alloc _ _ _ (Nat.lt_of_lt_of_le (lt_at HX.out.res) hs4.size)).trans ((hs4.block _ (.inl (.inl rfl))).trans HX.out.res)
            have r1 : (W4.alloc (.cells #[.int .i64 x.1, .int .i64 x.2] 28)).heap[W1.heap.size]? = some (wob (1, 0)) := (Below.heap_alloc _ _ _ (Nat.lt_of_lt_of_le (lt_at HX.out.last) hs4.size)).trans ((hs4.block _ (.inl (.inr rfl))).trans HX.out.last)
            have HG := Lib.hid (And.intro g5 (And.intro r0 r1))
            have hz4 := hs4.size
            have hz1 := lt_at HX.out.res
            have hz2 := lt_at HX.out.last
            have HZ := Lib.hid (And.intro hz4 (And.intro hz1 hz2))
            obtain ⟨i0, hi, hy0, hy1, hy2⟩ := info_parts info_word
            have hnv : nv ≤ 100000 := by have := HXN.out.2; omega
            clear hs4 hrw hblk g5 r0 r1 hz4 hz1 hz2
            go_wp2_with (at_builtin; refine wpList_append_row _ rfl _ _ 36 rfl 28 i0 (.agg #[.int .i64 0, .int .i64 0]) 2 16 Tryz.underlying36 hi hy0 hy1 hy2 rfl (by decide) _ _ _ rfl _ 7 hrow ⟨W4.heap.size, 0, none⟩ 1 1 [.int .i64 x.1, .int .i64 x.2] rfl rfl ?c1 ?c2 ?c3 ?c4 ?_)
            case c1 =>
              intro j u hj
              match j, hj with
              | 0, hj => simp at hj; subst hj; simp [Addr.add]
              | 1, hj => simp at hj; subst hj; simp [Addr.add]
              | (j + 2), hj => simp at hj
            case c2 => intro u hu; simp at hu; rcases hu with rfl | rfl <;> rfl
            case c3 => unfold maxLen; omega
            case c4 => omega
            intro v' w7 hrow7 hgr7 _
            obtain ⟨av7, cv7, rfl⟩ := own_slice hrow7.own
            have hnew : ∀ j, (Value.slice av7 (nv + 1) cv7).ownBlock = some j → (Value.slice av nv cv).ownBlock = some j ∨ (W4.heap.size + 1 ≤ j ∧ j < w7.heap.size) := fun j hj => by
              have h1 : (if j < W4.heap.size + 1 then (if (Value.slice av nv cv).ownBlock = some j then 7 else 0) else 7) = 7 := by have := hrow7.lab j hj; simpa using this
              have h2 := (hrow7.own.lt j hj).2
              by_cases e : j < W4.heap.size + 1
              · rw [if_pos e] at h1
                left
                by_cases e2 : (Value.slice av nv cv).ownBlock = some j
                · exact e2
                · rw [if_neg e2] at h1; cases h1
              · right
                exact ⟨by omega, h2⟩
            have g7 := HG.out.1.grown H.out hgr7 (fun j hj => .inr hj)
            have hne1 : ∀ j, j < W4.heap.size → (Value.slice av nv cv).ownBlock ≠ some j → w7.heap[j]? = (W4.alloc (.cells #[.int .i64 x.1, .int .i64 x.2] 28)).heap[j]? := fun j hj hne => hgr7.block j (by simp; omega) (fun e => hne e.symm)
            have k0 : w7.heap[w.heap.size]? = some (wob (0, 0)) := (hne1 _ (Nat.lt_of_lt_of_le HZ.out.2.1 HZ.out.1) HX.out.n1).trans HG.out.2.1
            have k1 : w7.heap[W1.heap.size]? = some (wob (1, 0)) := (hne1 _ (Nat.lt_of_lt_of_le HZ.out.2.2 HZ.out.1) HX.out.n2).trans HG.out.2.2
            have m1 : (Value.slice av7 (nv + 1) cv7).ownBlock ≠ some w.heap.size := fun e => by
              rcases hnew _ e with e | e
              · exact HX.out.n1 e
              · have := HZ.out.1; have := HZ.out.2.1; omega
            have m2 : (Value.slice av7 (nv + 1) cv7).ownBlock ≠ some W1.heap.size := fun e => by
              rcases hnew _ e with e | e
              · exact HX.out.n2 e
              · have := HZ.out.1; have := HZ.out.2.2; omega
            have hfr : (acc ++ [x]).length = nv + 1 := by rw [List.length_append, HXN.out.2]; rfl
            have hfi2 := HFI.out
            have g8 : GoR w0 w w7 (fun j => (j = w.heap.size ∨ j = W1.heap.size) ∨ (Value.slice av7 (nv + 1) cv7).ownBlock = some j) r F s' := g7.mono (by
              rintro j (hj | hj)
              · exact .inl (.inl hj)
              · rcases hnew j hj with e | e
                · exact .inl (.inr e)
                · exact .inr ⟨by simp; omega, e.2⟩)
            have cM := mv_go H.out g8 fun F1 h1 => more_any h1
            have HN := Lib.hid (And.intro hrow7.own (And.intro k0 (And.intro k1 (And.intro m1 (And.intro m2 (And.intro hfr hfi2))))))
            clear hnew g7 hne1 k0 k1 m1 m2 hfr hfi2 g8 hrow7 hgr7 hrow
            go_wp2_with fail
            refine cM.mono ?_
            rintro e w8 ⟨rfl, hs8⟩
            have hI8 : ListI w0 w w8 r F s W1.heap.size (.slice av7 (nv + 1) cv7) (acc ++ [x]) s' := by
              refine ⟨hs8.go, ?_, HN.out.2.2.2.1, HN.out.2.2.2.2.1, HX.out.n3, (hs8.block _ (.inl (.inl rfl))).trans HN.out.2.1, (hs8.block _ (.inl (.inr rfl))).trans HN.out.2.2.1, ?_, ?_, HN.out.2.2.2.2.2.2.2.1, ?_⟩
              · have hrw : Row w7 (fun j => if (Value.slice av7 (nv + 1) cv7).ownBlock = some j then 7 else 0) 7 28 2 (.slice av7 (nv + 1) cv7) (nv + 1) (wcells acc ++ [.int .i64 x.1, .int .i64 x.2]) := ⟨HN.out.1, fun j hj => if_pos hj⟩
                have := (hrw.keep (w' := w8) (G' := fun j => if (Value.slice av7 (nv + 1) cv7).ownBlock = some j then 7 else 0) (fun j hj0 hj => hs8.block j (.inr (by
                  by_cases e : (Value.slice av7 (nv + 1) cv7).ownBlock = some j
                  · exact e
                  · rw [if_neg e] at hj; cases hj))) (fun _ _ e => e)).own
                rw [HN.out.2.2.2.2.2.1, wcells_append]
                exact this
              · have h1 := HN.out.2.2.2.2.2.1; have h2 := HXN.out.2; have h3 := HX.out.len; have h4 : skipTo r.L s1.pos < s'.pos := HN.out.2.2.2.2.2.2.1; have h5 := skipTo_ge r.L s1.pos; omega
              · have h3 := HX.out.pos; have h4 : skipTo r.L s1.pos < s'.pos := HN.out.2.2.2.2.2.2.1; have h5 := skipTo_ge r.L s1.pos; omega
              · have h3 := HX.out.opn; have h4 : s'.opn = s1.opn := HN.out.2.2.2.2.2.2.2.2; omega
            have hpos8 : posIn w8 r.pb = skipTo r.L s'.pos := by obtain ⟨F1, h1, _⟩ := hs8.go.step H.out; exact h1.posIn
            have H8 := Lib.hid (And.intro hI8 hpos8)
            clear hI8 hpos8 hs8 cM
            go_wp2
            go_roundw
            case rel => exact ⟨k, acc ++ [x], s', av7, nv + 1, cv7, rfl, Lib.hid ⟨H8.out.1, HN.out.2.2.2.2.2.1⟩, Lib.hid HEs.out⟩
            case measure =>
              rw [HPI.out, H8.out.2]
              have h4 : skipTo r.L s1.pos < s'.pos := HN.out.2.2.2.2.2.2.1
              have h5 := skipTo_ge r.L s'.pos
              have h6 : s'.pos ≤ r.L.length := HN.out.2.2.2.2.2.2.2.1
              omega
        · have hnv0 : ¬ (0 : Int) < (nv : Int) := by omega
          generalize ch r.L (skipTo r.L s1.pos) = c1 at *
          clear hEs hfif cF hfl hd h41 hto hpp cD
          go_wp2_with fail
          refine cQ.mono ?_
          rintro e w'' ⟨rfl, rfl⟩
          clear cQ
          go_wp2_with fail
          refine (HCF.out).mono ?_
          intro e W4 hD4
          cases o3 with
          | lost => exact HFI.out.elim
          | bad er a s' =>
            obtain ⟨rfl, hb4⟩ := hD4
            have HB4 := Lib.hid hb4
            clear hb4
            go_wp2
            refine ⟨rfl, ?_⟩
            unfold listO
            rw [if_neg HO.out, ← HEs.out]
            exact ⟨rfl, HB4.out⟩
          | ok x s' =>
            obtain ⟨rfl, hs4⟩ := hD4
            have hrw : Row _ (fun j => if (Value.slice av nv cv).ownBlock = some j then 7 else 0) 7 28 2 (.slice av nv cv) acc.length (wcells acc) := ⟨HX.out.row, fun j hj => if_pos hj⟩
            have hblk : ∀ j, (if (Value.slice av nv cv).ownBlock = some j then 7 else 0) = 7 → (Value.slice av nv cv).ownBlock = some j := fun j hj => by
              by_cases e : (Value.slice av nv cv).ownBlock = some j
              · exact e
              · rw [if_neg e] at hj; cases hj
            have hrow : Row (W4.alloc (.cells #[.int .i64 x.1, .int .i64 x.2] 28)) (fun j => if (Value.slice av nv cv).ownBlock = some j then 7 else 0) 7 28 2 (.slice av nv cv) nv (wcells acc) := by
              have := hrw.keep (w' := W4.alloc (.cells #[.int .i64 x.1, .int .i64 x.2] 28)) (G' := fun j => if (Value.slice av nv cv).ownBlock = some j then 7 else 0) (fun j hj0 hj => (Below.heap_alloc _ _ _ (Nat.lt_of_lt_of_le hj0 hs4.size)).trans (hs4.block j (.inr (hblk j hj)))) (fun _ _ e => e)
              rw [HXN.out.2] at this
              exact this
            have g5 := hs4.go.junk ((Below.refl W4.heap.size W4).alloc (Nat.le_refl _) (.cells #[.int .i64 x.1, .int .i64 x.2] 28))
            have r0 : (W4.alloc (.cells #[.int .i64 x.1, .int .i64 x.2] 28)).heap[w.heap.size]? = some (wob (0, 0)) := (Below.heap_alloc _ _ _ (Nat.lt_of_lt_of_le (lt_at HX.out.res) hs4.size)).trans ((hs4.block _ (.inl (.inl rfl))).trans HX.out.res)
            have r1 : (W4.alloc (.cells #[.int .i64 x.1, .int .i64 x.2] 28)).heap[W1.heap.size]? = some (wob (1, 0)) := (Below.heap_alloc _ _ _ (Nat.lt_of_lt_of_le (lt_at HX.out.last) hs4.size)).trans ((hs4.block _ (.inl (.inr rfl))).trans HX.out.last)
            have HG := Lib.hid (And.intro g5 (And.intro r0 r1))
            have hz4 := hs4.size
            have hz1 := lt_at HX.out.res
            have hz2 := lt_at HX.out.last
            have HZ := Lib.hid (And.intro hz4 (And.intro hz1 hz2))
            obtain ⟨i0, hi, hy0, hy1, hy2⟩ := info_parts info_word
            have hnv : nv ≤ 100000 := by have := HXN.out.2; omega
            clear hs4 hrw hblk g5 r0 r1 hz4 hz1 hz2
            go_wp2_with (at_builtin; refine wpList_append_row _ rfl _ _ 36 rfl 28 i0 (.agg #[.int .i64 0, .int .i64 0]) 2 16 Tryz.underlying36 hi hy0 hy1 hy2 rfl (by decide) _ _ _ rfl _ 7 hrow ⟨W4.heap.size, 0, none⟩ 1 1 [.int .i64 x.1, .int .i64 x.2] rfl rfl ?c1 ?c2 ?c3 ?c4 ?_)
            case c1 =>
              intro j u hj
              match j, hj with
              | 0, hj => simp at hj; subst hj; simp [Addr.add]
              | 1, hj => simp at hj; subst hj; simp [Addr.add]
              | (j + 2), hj => simp at hj
            case c2 => intro u hu; simp at hu; rcases hu with rfl | rfl <;> rfl
            case c3 => unfold maxLen; omega
            case c4 => omega
            intro v' w7 hrow7 hgr7 _
            obtain ⟨av7, cv7, rfl⟩ := own_slice hrow7.own
            have hnew : ∀ j, (Value.slice av7 (nv + 1) cv7).ownBlock = some j → (Value.slice av nv cv).ownBlock = some j ∨ (W4.heap.size + 1 ≤ j ∧ j < w7.heap.size) := fun j hj => by
              have h1 : (if j < W4.heap.size + 1 then (if (Value.slice av nv cv).ownBlock = some j then 7 else 0) else 7) = 7 := by have := hrow7.lab j hj; simpa using this
              have h2 := (hrow7.own.lt j hj).2
              by_cases e : j < W4.heap.size + 1
              · rw [if_pos e] at h1
                left
                by_cases e2 : (Value.slice av nv cv).ownBlock = some j
                · exact e2
                · rw [if_neg e2] at h1; cases h1
              · right
                exact ⟨by omega, h2⟩
            have g7 := HG.out.1.grown H.out hgr7 (fun j hj => .inr hj)
            have hne1 : ∀ j, j < W4.heap.size → (Value.slice av nv cv).ownBlock ≠ some j → w7.heap[j]? = (W4.alloc (.cells #[.int .i64 x.1, .int .i64 x.2] 28)).heap[j]? := fun j hj hne => hgr7.block j (by simp; omega) (fun e => hne e.symm)
            have k0 : w7.heap[w.heap.size]? = some (wob (0, 0)) := (hne1 _ (Nat.lt_of_lt_of_le HZ.out.2.1 HZ.out.1) HX.out.n1).trans HG.out.2.1
            have k1 : w7.heap[W1.heap.size]? = some (wob (1, 0)) := (hne1 _ (Nat.lt_of_lt_of_le HZ.out.2.2 HZ.out.1) HX.out.n2).trans HG.out.2.2
            have m1 : (Value.slice av7 (nv + 1) cv7).ownBlock ≠ some w.heap.size := fun e => by
              rcases hnew _ e with e | e
              · exact HX.out.n1 e
              · have := HZ.out.1; have := HZ.out.2.1; omega
            have m2 : (Value.slice av7 (nv + 1) cv7).ownBlock ≠ some W1.heap.size := fun e => by
              rcases hnew _ e with e | e
              · exact HX.out.n2 e
              · have := HZ.out.1; have := HZ.out.2.2; omega
            have hfr : (acc ++ [x]).length = nv + 1 := by rw [List.length_append, HXN.out.2]; rfl
            have hfi2 := HFI.out
            have g8 : GoR w0 w w7 (fun j => (j = w.heap.size ∨ j = W1.heap.size) ∨ (Value.slice av7 (nv + 1) cv7).ownBlock = some j) r F s' := g7.mono (by
              rintro j (hj | hj)
              · exact .inl (.inl hj)
              · rcases hnew j hj with e | e
                · exact .inl (.inr e)
                · exact .inr ⟨by simp; omega, e.2⟩)
            have cM := mv_go H.out g8 fun F1 h1 => more_any h1
            have HN := Lib.hid (And.intro hrow7.own (And.intro k0 (And.intro k1 (And.intro m1 (And.intro m2 (And.intro hfr hfi2))))))
            clear hnew g7 hne1 k0 k1 m1 m2 hfr hfi2 g8 hrow7 hgr7 hrow
            go_wp2_with fail
            refine cM.mono ?_
            rintro e w8 ⟨rfl, hs8⟩
            have hI8 : ListI w0 w w8 r F s W1.heap.size (.slice av7 (nv + 1) cv7) (acc ++ [x]) s' := by
              refine ⟨hs8.go, ?_, HN.out.2.2.2.1, HN.out.2.2.2.2.1, HX.out.n3, (hs8.block _ (.inl (.inl rfl))).trans HN.out.2.1, (hs8.block _ (.inl (.inr rfl))).trans HN.out.2.2.1, ?_, ?_, HN.out.2.2.2.2.2.2.2.1, ?_⟩
              · have hrw : Row w7 (fun j => if (Value.slice av7 (nv + 1) cv7).ownBlock = some j then 7 else 0) 7 28 2 (.slice av7 (nv + 1) cv7) (nv + 1) (wcells acc ++ [.int .i64 x.1, .int .i64 x.2]) := ⟨HN.out.1, fun j hj => if_pos hj⟩
                have := (hrw.keep (w' := w8) (G' := fun j => if (Value.slice av7 (nv + 1) cv7).ownBlock = some j then 7 else 0) (fun j hj0 hj => hs8.block j (.inr (by
                  by_cases e : (Value.slice av7 (nv + 1) cv7).ownBlock = some j
                  · exact e
                  · rw [if_neg e] at hj; cases hj))) (fun _ _ e => e)).own
                rw [HN.out.2.2.2.2.2.1, wcells_append]
                exact this
              · have h1 := HN.out.2.2.2.2.2.1; have h2 := HXN.out.2; have h3 := HX.out.len; have h4 : skipTo r.L s1.pos < s'.pos := HN.out.2.2.2.2.2.2.1; have h5 := skipTo_ge r.L s1.pos; omega
              · have h3 := HX.out.pos; have h4 : skipTo r.L s1.pos < s'.pos := HN.out.2.2.2.2.2.2.1; have h5 := skipTo_ge r.L s1.pos; omega
              · have h3 := HX.out.opn; have h4 : s'.opn = s1.opn := HN.out.2.2.2.2.2.2.2.2; omega
            have hpos8 : posIn w8 r.pb = skipTo r.L s'.pos := by obtain ⟨F1, h1, _⟩ := hs8.go.step H.out; exact h1.posIn
            have H8 := Lib.hid (And.intro hI8 hpos8)
            clear hI8 hpos8 hs8 cM
            go_wp2
            go_roundw
            case rel => exact ⟨k, acc ++ [x], s', av7, nv + 1, cv7, rfl, Lib.hid ⟨H8.out.1, HN.out.2.2.2.2.2.1⟩, Lib.hid HEs.out⟩
            case measure =>
              rw [HPI.out, H8.out.2]
              have h4 : skipTo r.L s1.pos < s'.pos := HN.out.2.2.2.2.2.2.1
              have h5 := skipTo_ge r.L s'.pos
              have h6 : s'.pos ≤ r.L.length := HN.out.2.2.2.2.2.2.2.1
              omega
end
end Go.Proofs.YtbbopdkbokbafaaGreatDoor
