/- The contracts of the reader's skipLine and more. -/
import Derived.Test.YtbbopdkbokbafaaGreatDoorRdMove
namespace Go.Proofs.YtbbopdkbokbafaaGreatDoor
open Go.RowKit Go.Lib
/-- How many characters stand before the end of the line. -/
def lineN : List Int → Nat
  | [] => 0
  | c :: r => if c = 10 then 0 else lineN r + 1
theorem lineN_le : ∀ l : List Int, lineN l ≤ l.length
  | [] => Nat.le_refl _
  | c :: r => by
    have := lineN_le r
    unfold lineN
    simp only [List.length_cons]
    split <;> omega
theorem skip_line : ∀ l : List Int, skipN true l = lineN l + skipN false (l.drop (lineN l))
  | [] => rfl
  | c :: r => by
    by_cases h : c = 10
    · subst h
      simp [skipN, lineN, blank]
    · have ih := skip_line r
      simp only [skipN, lineN, if_neg h, List.drop_succ_cons]
      omega
theorem drop_at {L : List Int} {p : Nat} {c : Int} (h : ch L p = c) (hc : c ≠ -1) : L.drop p = c :: L.drop (p + 1) := by
  have hp := ch_lt (h ▸ hc)
  rw [List.drop_eq_getElem_cons hp]
  unfold ch at h
  rw [List.getElem?_eq_getElem hp] at h
  simp at h
  rw [h]
theorem skip_blank {L : List Int} {p : Nat} (hb : blank (ch L p) = true) : skipTo L (p + 1) = skipTo L p := by
  have hc : ch L p ≠ -1 := fun e => by rw [e] at hb; cases hb
  unfold skipTo
  rw [drop_at rfl hc]
  simp only [skipN, hb, if_true]
  omega
theorem skip_comment {L : List Int} {p : Nat} (hb : ch L p = 59) : skipTo L (p + lineN (L.drop p)) = skipTo L p := by
  have hd := drop_at hb (by decide)
  have h1 : lineN (L.drop p) = lineN (L.drop (p + 1)) + 1 := by rw [hd]; simp [lineN]
  unfold skipTo
  rw [h1, hd]
  simp only [skipN, show blank 59 = false from rfl, Bool.false_eq_true, if_false, if_true]
  rw [skip_line, List.drop_drop]
  simp only [show p + (lineN (L.drop (p + 1)) + 1) = p + 1 + lineN (L.drop (p + 1)) by omega]
  omega
theorem skip_here {L : List Int} {p : Nat} (hb : blank (ch L p) = false) (h : ch L p ≠ 59) : skipTo L p = p := by
  unfold skipTo
  rcases Nat.lt_or_ge p L.length with g | g
  · rw [List.drop_eq_getElem_cons g]
    unfold ch at hb h
    rw [List.getElem?_eq_getElem g] at hb h
    simp only [Option.getD_some] at hb h
    simp [skipN, hb, h]
  · rw [List.drop_of_length_le g]
    rfl
theorem line_step {L : List Int} {p : Nat} (h1 : ch L p ≠ -1) (h2 : ch L p ≠ 10) : lineN (L.drop p) = lineN (L.drop (p + 1)) + 1 := by
  rw [drop_at rfl h1]
  simp [lineN, h2]
theorem line_stop {L : List Int} {p : Nat} (h2 : ch L p = 10) : lineN (L.drop p) = 0 := by
  rw [drop_at h2 (by decide)]
  rfl
theorem line_end {L : List Int} {p : Nat} (h : L.length ≤ p) : lineN (L.drop p) = 0 := by
  rw [List.drop_of_length_le h]
  rfl
theorem ch_end {L : List Int} {p : Nat} (hz : L.all isZ = true) (h : ch L p = -1) : L.length ≤ p := by
  rcases Nat.lt_or_ge p L.length with g | g
  · exfalso
    unfold ch at h
    rw [List.getElem?_eq_getElem g] at h
    have := List.all_eq_true.1 hz _ (List.getElem_mem g)
    simp only [Option.getD_some] at h
    rw [h] at this
    exact absurd this (by decide)
  · exact g
/-- Where the reader stands, read off its block. -/
def posIn (w : World) (pb : Nat) : Nat := match w.cell? ⟨pb, 3, none⟩ with
  | some (.int _ x) => x.toNat
  | _ => 0
section
variable {w0 w : World} {r : Rd} {F : Nat → Nat} {s : Rs}
theorem RdAt.posIn (h : RdAt w0 w r F s) : posIn w r.pb = s.pos := by
  have c3 : w.cell? ⟨r.pb, 3, none⟩ = some (.int .i64 s.pos) := cell_at h.own
  unfold Go.Proofs.YtbbopdkbokbafaaGreatDoor.posIn
  rw [c3]
  rfl
/-- One step on, as the walk spells it. -/
theorem Mv.step {w1 : World} {q : Nat} (h : Mv w0 w w1 r F { s with pos := q }) (hq : q < r.L.length) : Mv w0 w (w1.setCell ⟨r.pb, 3, none⟩ (.int .i64 ((q : Int) + 1))) r F { s with pos := q + 1 } := by
  have hm := h.trans (h.rd.mvPos (q + 1) hq)
  rw [show (((q + 1 : Nat) : Int)) = (q : Int) + 1 by simp] at hm
  exact hm
theorem skipLine_any (h : RdAt w0 w r F s) :
    Calls Tryz.prog 113 #[rp r] w fun e w' => e = .returned (.tuple #[]) ∧ Mv w0 w w' r F { s with pos := s.pos + lineN (r.L.drop s.pos) } := by
  have H := Lib.hid h
  have cP := peek_any h
  clear h
  go_enter Tryz.func113, Tryz.ntmps113
  go_wp2_with (go_at_call 112; ((with_reducible refine cP.mono ?_); rintro e w' ⟨rfl, rfl⟩))
  go_loopw [2] (fun c wr => ∃ q : Nat, c = .int .i64 (ch r.L q) ∧ Hid (Mv w0 w' wr r F { s with pos := q }) ∧ Hid (q + lineN (r.L.drop q) = s.pos + lineN (r.L.drop s.pos))) (fun _ wr => r.L.length - posIn wr r.pb)
  case atStart => exact ⟨s.pos, rfl, Lib.hid (Mv.refl H.out), Lib.hid rfl⟩
  case round =>
    obtain ⟨q, rfl, HM, HE⟩ := hrel
    have c3 : wr.cell? ⟨r.pb, 3, none⟩ = some (.int .i64 q) := cell_at HM.out.rd.own
    have f3 := HM.out.rd.frozen 3
    have hl : q ≤ 100000 := by have : q ≤ r.L.length := HM.out.rd.pos; have := HM.out.rd.fix.len; omega
    by_cases h1 : ch r.L q = -1
    · rw [h1]
      clear cP
      go_wp2
      go_end0
      refine ⟨rfl, ?_⟩
      have he := HE.out
      rw [line_end (ch_end HM.out.rd.fix.isz h1)] at he
      have hm := HM.out
      rw [show q = s.pos + lineN (r.L.drop s.pos) by omega] at hm
      exact hm
    · by_cases h2 : ch r.L q = 10
      · rw [h2]
        clear cP
        go_wp2
        go_end0
        refine ⟨rfl, ?_⟩
        have he := HE.out
        rw [line_stop h2] at he
        have hm := HM.out
        rw [show q = s.pos + lineN (r.L.drop s.pos) by omega] at hm
        exact hm
      · have hq := ch_lt h1
        have hs := Lib.hid (HM.out.step hq)
        have cQ := peek_any hs.out.rd
        have hp0 := HM.out.rd.posIn
        have hp1 := hs.out.rd.posIn
        have he := HE.out
        rw [line_step h1 h2] at he
        have HE2 := Lib.hid he
        have HP := Lib.hid (And.intro hp0 hp1)
        have hb1 : (ch r.L q != -1) = true := by simpa using h1
        have hb2 : (ch r.L q != 10) = true := by simpa using h2
        clear cP he hp0 hp1
        simp only at cQ
        generalize ch r.L q = c at *
        go_wp2_with (go_at_call 112; ((with_reducible refine cQ.mono ?_); rintro e w'' ⟨rfl, rfl⟩))
        go_roundw
        case rel => exact ⟨q + 1, rfl, hs, Lib.hid (by have := HE2.out; omega)⟩
        case measure => rw [HP.out.1, HP.out.2]; show r.L.length - (q + 1) < r.L.length - q; omega
theorem more_any (h : RdAt w0 w r F s) :
    Calls Tryz.prog 65 #[rp r] w fun e w' => e = .returned (.bool (ch r.L (skipTo r.L s.pos) != -1)) ∧ Mv w0 w w' r F { s with pos := skipTo r.L s.pos } := by
  have H := Lib.hid h
  clear h
  go_enter Tryz.func65, Tryz.ntmps65
  go_wp2_with fail
  go_loopw [] (fun wr => ∃ q : Nat, Hid (Mv w0 w wr r F { s with pos := q }) ∧ Hid (skipTo r.L q = skipTo r.L s.pos)) (fun wr => r.L.length - posIn wr r.pb)
  case atStart => exact ⟨s.pos, Lib.hid (Mv.refl H.out), Lib.hid rfl⟩
  case round =>
    obtain ⟨q, HM, HE⟩ := hrel
    have c3 : wr.cell? ⟨r.pb, 3, none⟩ = some (.int .i64 q) := cell_at HM.out.rd.own
    have f3 := HM.out.rd.frozen 3
    have hl : q ≤ 100000 := by have : q ≤ r.L.length := HM.out.rd.pos; have := HM.out.rd.fix.len; omega
    have cQ := peek_any HM.out.rd
    have cB := fun W => blank_any (ch r.L q) W
    have cS := skipLine_any HM.out.rd
    simp only at cQ cS
    by_cases h1 : ch r.L q = -1
    · have he : skipTo r.L s.pos = q := by rw [← HE.out]; exact skip_here (by rw [h1]; rfl) (by rw [h1]; decide)
      rw [h1] at cQ cB
      have HH := Lib.hid (And.intro he h1)
      clear he h1 cS cB
      go_wp2_with (first | (go_at_call 112; ((with_reducible refine cQ.mono ?_); rintro e w'' ⟨rfl, rfl⟩)) | (go_at_call 22; ((with_reducible refine (cB _).mono ?_); rintro e w'' ⟨rfl, rfl⟩)) | (go_at_call 113; ((with_reducible refine cS.mono ?_); rintro e w'' ⟨rfl, hs⟩)))
      go_ret
      rw [HH.out.1, HH.out.2]
      exact ⟨rfl, HM.out⟩
    · by_cases h2 : blank (ch r.L q) = true
      · have hq := ch_lt h1
        have hs := Lib.hid (HM.out.step hq)
        have hp0 := HM.out.rd.posIn
        have hp1 := hs.out.rd.posIn
        have he := HE.out
        rw [← skip_blank h2] at he
        have HE2 := Lib.hid he
        have HP := Lib.hid (And.intro hp0 hp1)
        rw [h2] at cB
        clear cS he hp0 hp1 h2
        generalize ch r.L q = c at *
        go_wp2_with (first | (go_at_call 112; ((with_reducible refine cQ.mono ?_); rintro e w'' ⟨rfl, rfl⟩)) | (go_at_call 22; ((with_reducible refine (cB _).mono ?_); rintro e w'' ⟨rfl, rfl⟩)) | (go_at_call 113; ((with_reducible refine cS.mono ?_); rintro e w'' ⟨rfl, hs⟩)))
        go_roundw
        case rel => exact ⟨q + 1, hs, HE2⟩
        case measure => rw [HP.out.1, HP.out.2]; show r.L.length - (q + 1) < r.L.length - q; omega
      · have h2' : blank (ch r.L q) = false := by simpa using h2
        rw [h2'] at cB
        by_cases h3 : ch r.L q = 59
        · have hq := ch_lt h1
          have hp0 := HM.out.rd.posIn
          have he := HE.out
          rw [← skip_comment h3] at he
          have HE2 := Lib.hid he
          have hln : lineN (r.L.drop q) = lineN (r.L.drop (q + 1)) + 1 := line_step h1 (by rw [h3]; decide)
          have HP := Lib.hid (And.intro hp0 hln)
          rw [h3] at cQ cB
          clear he hp0 h2 h2' h1 hln
          go_wp2_with (first | (go_at_call 112; ((with_reducible refine cQ.mono ?_); rintro e w'' ⟨rfl, rfl⟩)) | (go_at_call 22; ((with_reducible refine (cB _).mono ?_); rintro e w'' ⟨rfl, rfl⟩)) | (go_at_call 113; ((with_reducible refine cS.mono ?_); rintro e w'' ⟨rfl, hs⟩)))
          have HS := Lib.hid hs
          clear hs
          go_roundw
          case rel => exact ⟨q + lineN (r.L.drop q), Lib.hid (HM.out.trans HS.out), HE2⟩
          case measure =>
            rw [HP.out.1, HS.out.rd.posIn]
            show r.L.length - (q + lineN (r.L.drop q)) < r.L.length - q
            have := HP.out.2
            omega
        · have he : skipTo r.L s.pos = q := by rw [← HE.out]; exact skip_here h2' h3
          have hb : (ch r.L q != -1) = true := by simpa using h1
          have HH := Lib.hid (And.intro he hb)
          clear he cS h2 h2' hb
          generalize hc : ch r.L q = c at *
          have HC := Lib.hid hc
          clear hc
          go_wp2_with (first | (go_at_call 112; ((with_reducible refine cQ.mono ?_); rintro e w'' ⟨rfl, rfl⟩)) | (go_at_call 22; ((with_reducible refine (cB _).mono ?_); rintro e w'' ⟨rfl, rfl⟩)) | (go_at_call 113; ((with_reducible refine cS.mono ?_); rintro e w'' ⟨rfl, hs⟩)))
          go_ret
          rw [HH.out.1, HC.out, HH.out.2]
          exact ⟨rfl, HM.out⟩
end
end Go.Proofs.YtbbopdkbokbafaaGreatDoor
