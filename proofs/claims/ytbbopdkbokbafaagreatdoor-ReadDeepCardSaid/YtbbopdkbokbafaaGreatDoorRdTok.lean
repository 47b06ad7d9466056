/- The contract of the reader's collect. -/
import Derived.Test.YtbbopdkbokbafaaGreatDoorRdSkip
import Derived.Test.YtbbopdkbokbafaaGreatDoorRnBuild
namespace Go.Proofs.YtbbopdkbokbafaaGreatDoor
open Go.RowKit Go.Lib
/-- How a call that touches neither the heap nor the table ends. -/
def Gets {α : Type} (v : α → Value) (w0 w : World) (r : Rd) (F : Nat → Nat) (s : Rs) (g : Got α) (e : Ending) (w' : World) : Prop :=
  match g with
  | .ok x q => e = .returned (v x) ∧ Mv w0 w w' r F { s with pos := q }
  | .bad er a => e = Panics er a ∧ BadR w0 w w' r F s
  | .lost => True
theorem Mv.bad {w0 w w1 w2 : World} {r : Rd} {F : Nat → Nat} {s1 s : Rs} (h : Mv w0 w w1 r F s1) (hb : Below w1.heap.size w1 w2) (h1 : s1.h = s.h) (h2 : s1.t = s.t) : BadR w0 w w2 r F s := by
  obtain ⟨k, F', q1, q2⟩ := (h.junk hb).went.bad
  exact ⟨k, F', by rw [h1, h2] at q1; exact q1, q2⟩
section
variable {w0 w : World} {r : Rd} {F : Nat → Nat} {s : Rs}
/-- What the call itself has made may turn. -/
theorem Mv.own {w1 w2 : World} {s1 : Rs} (H : RdAt w0 w r F s) (m : Mv w0 w w1 r F s1) (hb : Below w.heap.size w1 w2) : Mv w0 w w2 r F s1 := by
  obtain ⟨cur, g1, g2⟩ := m.rd.fix.row
  obtain ⟨cur0, g0, _⟩ := H.fix.row
  refine ⟨⟨m.rd.ht.keep (m.rd.ht.below.trans (hb.mono H.ht.below.size)) fun k _ hz => hb.block k ?_, ⟨m.rd.fix.base, m.rd.fix.pb, m.rd.fix.g, m.rd.fix.gp, ⟨cur, (hb.block _ (lt_at g0)).trans g1, g2⟩, m.rd.fix.rb, m.rd.fix.rp, (hb.block _ (lt_at H.fix.map)).trans m.rd.fix.map, m.rd.fix.len, m.rd.fix.isz⟩, (hb.block _ H.lt).trans m.rd.own, m.rd.pos, m.rd.opn⟩, ?_⟩
  · rcases Nat.lt_or_ge k w.heap.size with g | g
    · exact g
    · exact absurd (H.ht.new k g) hz
  · exact ⟨hb.os.trans m.keeps.os, hb.tape.trans m.keeps.tape, hb.output.trans m.keeps.output, Nat.le_trans m.keeps.size hb.size, fun k hk hz => (hb.block k hk).trans (m.keeps.block k hk hz)⟩
theorem builder_keep {T e : TypeId} {B b : Nat} {bs : List Value} {w1 w2 : World} (h : IsBuilderF T e B b bs w1) (hk : ∀ k, B ≤ k → k < w1.heap.size → w2.heap[k]? = w1.heap[k]?) : IsBuilderF T e B b bs w2 := by
  have key : ∀ p, BuilderAtF T e B b p bs w1 → BuilderAtF T e B b p bs w2 := by
    rintro p ⟨hB, v, h1, h2, h3⟩
    refine ⟨hB, v, (hk b hB (lt_at h1)).trans h1, ?_, h3⟩
    obtain ⟨q1, q2⟩ := h2
    refine ⟨q1, ?_⟩
    rcases q2 with q2 | ⟨g, cap, cur, fz, e1, e2, e3, e4⟩
    · exact .inl q2
    · exact .inr ⟨g, cap, cur, fz, e1, e2, (hk g e2 (lt_at e3)).trans e3, e4⟩
  rcases h with h | h
  · exact .inl (key _ h)
  · exact .inr (key _ h)
theorem RdAt.builder {T e : TypeId} {b : Nat} {bs : List Value} {w1 w2 : World} {s1 : Rs} (H : RdAt w0 w r F s) (h : IsBuilderF T e w.heap.size b bs w1) (m : Mv w0 w1 w2 r F s1) : IsBuilderF T e w.heap.size b bs w2 :=
  builder_keep h fun k hB hk => m.keeps.block k hk (foot_zero.2 ⟨by have := H.lt; omega, H.ht.new k hB⟩)
theorem ch_isZ {L : List Int} {p : Nat} (hz : L.all isZ = true) (h : ch L p ≠ -1) : isZ (ch L p) = true := by
  have g := ch_lt h
  unfold ch
  rw [List.getElem?_eq_getElem g]
  exact List.all_eq_true.1 hz _ (List.getElem_mem g)
theorem isZ_bd {c : Int} (h : isZ c = true) : 0 ≤ c ∧ c ≤ 1114111 := by
  unfold isZ at h; simp at h; omega
theorem encD_snoc (l : List Int) (c : Int) : encD (l ++ [c]) = encD l ++ encodeRune c := by simp [encD]
theorem encD_len (l : List Int) : (encD l).length ≤ 4 * l.length := by
  induction l with
  | nil => simp [encD]
  | cons x l ih =>
    have := (encodeRuneZ_length x).2
    simp only [encD, List.flatMap_cons, List.length_append, encodeRune, List.length_map, List.length_cons] at ih ⊢
    omega
set_option maxHeartbeats 1000000 in
theorem collect_any (h : RdAt w0 w r F s) (n : Nat) (hn : r.L.length + 1 ≤ n + s.pos) :
    Calls Tryz.prog 167 #[rp r] w fun e w' => Gets (fun x => .tuple #[.string (nameOf x.1), .bool x.2]) w0 w r F s (tokG r.L n s.pos [] true) e w' := by
  have H := Lib.hid h
  have HN := Lib.hid hn
  clear h hn
  go_enter Tryz.func167, Tryz.ntmps167
  go_wp2_with fail
  go_loopw [3] (fun pv wr => ∃ (k q : Nat) (acc : List Int) (pl : Bool), pv = .bool pl ∧ Hid (Mv w0 w wr r F { s with pos := q }) ∧ Hid (IsBuilderF 150 5 w.heap.size w.heap.size (byteCells (encD acc)) wr) ∧ Hid (tokG r.L k q acc pl = tokG r.L n s.pos [] true ∧ r.L.length + 1 ≤ k + q ∧ acc.length ≤ q)) (fun _ wr => r.L.length - posIn wr r.pb)
  case atStart => exact ⟨n, s.pos, [], true, rfl, Lib.hid ((Mv.refl H.out).junk ((Below.refl _ _).alloc (Nat.le_refl _) _)), Lib.hid (IsBuilderF.of (fresh_isBuilder 150 5 w)), Lib.hid ⟨rfl, HN.out, Nat.zero_le _⟩⟩
  case round =>
    obtain ⟨k, q, acc, pl, rfl, HM, HB, HE⟩ := hrel
    have cQ := peek_any HM.out.rd
    have cE := fun W => ends_any (ch r.L q) W
    simp only at cQ
    have hk : 0 < k := by have h1 : q ≤ r.L.length := HM.out.rd.pos; have := HE.out.2.1; omega
    obtain ⟨k, rfl⟩ : ∃ j, k = j + 1 := ⟨k - 1, by omega⟩
    by_cases he : ends (ch r.L q) = true
    · have hg : tokG r.L n s.pos [] true = .ok (acc, pl) q := by rw [← HE.out.1]; unfold tokG; rw [if_pos he]
      rw [he] at cE
      have HG := Lib.hid hg
      have cS := Tryz.Builder_String_any_f w.heap.size w.heap.size (encD acc) wr HB.out HM.out.keeps.size
      clear he hg
      generalize ch r.L q = c at *
      go_wp2_with (first | (go_at_call 112; ((with_reducible refine cQ.mono ?_); rintro e w'' ⟨rfl, rfl⟩)) | (go_at_call 221; ((with_reducible refine (cE _).mono ?_); rintro e w'' ⟨rfl, rfl⟩)) | (go_at_call 93; refine cS.mono ?_; rintro e w3 ⟨rfl, _, hb3⟩))
      go_ret2
      rw [HG.out]
      exact ⟨rfl, HM.out.own H.out hb3⟩
    · have he' : ends (ch r.L q) = false := by simpa using he
      have hc : ch r.L q ≠ -1 := fun e => he (by rw [e]; rfl)
      have hq := ch_lt hc
      have hz := ch_isZ H.out.fix.isz hc
      have cN := next_ok HM.out.rd hc
      have hp0 := HM.out.rd.posIn
      have HP0 := Lib.hid hp0
      rw [he'] at cE
      simp only at cN
      by_cases h92 : ch r.L q = 92
      · by_cases hn : ch r.L (q + 1) = -1
        · have hg : tokG r.L n s.pos [] true = .bad 5 ((q + 1 : Nat) : Int) := by rw [← HE.out.1]; unfold tokG; rw [if_neg he, if_pos h92, if_pos hn]
          have HG := Lib.hid (And.intro hg hn)
          rw [h92] at cN cQ cE
          clear he he' hc h92 hn hg hp0 hz
          go_wp2_with (first | (go_at_call 112; ((with_reducible refine cQ.mono ?_); rintro e w'' ⟨rfl, rfl⟩)) | (go_at_call 221; ((with_reducible refine (cE _).mono ?_); rintro e w'' ⟨rfl, rfl⟩)))
          refine cN.mono ?_
          rintro e w2 ⟨rfl, hm2⟩
          have HM2 := Lib.hid (HM.out.trans hm2)
          clear hm2
          go_wp2_with fail
          refine (next_end HM2.out.rd HG.out.2).mono ?_
          rintro e w3 ⟨rfl, hb⟩
          have HB3 := Lib.hid hb
          clear hb
          go_wp2
          refine ⟨rfl, ?_⟩
          rw [HG.out.1]
          exact ⟨rfl, HM2.out.bad HB3.out rfl rfl⟩
        · have hg : tokG r.L k (q + 2) (acc ++ [ch r.L (q + 1)]) false = tokG r.L n s.pos [] true := by rw [← HE.out.1]; conv => rhs; unfold tokG; rw [if_neg he, if_pos h92, if_neg hn]
          have hzn := ch_isZ H.out.fix.isz hn
          have hql := ch_lt hn
          have HG := Lib.hid (And.intro hg (And.intro hn (And.intro hzn hql)))
          obtain ⟨x0, x1⟩ := isZ_bd hzn
          rw [h92] at cN cQ cE
          clear he he' hc h92 hn hg hp0 hz hzn hql
          go_wp2_with (first | (go_at_call 112; ((with_reducible refine cQ.mono ?_); rintro e w'' ⟨rfl, rfl⟩)) | (go_at_call 221; ((with_reducible refine (cE _).mono ?_); rintro e w'' ⟨rfl, rfl⟩)))
          refine cN.mono ?_
          rintro e w2 ⟨rfl, hm2⟩
          have HM2 := Lib.hid (HM.out.trans hm2)
          have HB2 := Lib.hid (H.out.builder HB.out hm2)
          clear hm2 cN HB
          go_wp2_with fail
          refine (next_ok HM2.out.rd HG.out.2.1).mono ?_
          rintro e w3 ⟨rfl, hm3⟩
          have HM3 := Lib.hid (HM2.out.trans hm3)
          have HB3 := Lib.hid (H.out.builder HB2.out hm3)
          clear hm3 HM2 HB2
          simp only
          go_wp2_with fail
          refine (writeRune_any w.heap.size w.heap.size (byteCells (encD acc)) _ (by omega) (by omega) w3 HB3.out (by rw [byteCells_length]; have := encD_len acc; have := HE.out.2.2; have := H.out.fix.len; omega) HM3.out.keeps.size).mono ?_
          rintro e w4 ⟨rfl, hI4, hb4⟩
          have HM4 := Lib.hid (HM3.out.own H.out hb4)
          have HB4 := Lib.hid hI4
          have HP1 := Lib.hid HM4.out.rd.posIn
          clear hI4 hb4 HM3 HB3
          go_wp2
          go_roundw
          case rel => exact ⟨k, q + 2, acc ++ [ch r.L (q + 1)], false, rfl, HM4, Lib.hid (by rw [encD_snoc, byteCells_append, byteCells_encodeRune]; exact HB4.out), Lib.hid ⟨HG.out.1, by have := HE.out.2.1; omega, by have := HE.out.2.2; simp; omega⟩⟩
          case measure =>
            rw [HP0.out, HP1.out]
            show r.L.length - (q + 1 + 1) < r.L.length - q
            omega
      · have hg : tokG r.L k (q + 1) (acc ++ [ch r.L q]) pl = tokG r.L n s.pos [] true := by rw [← HE.out.1]; conv => rhs; unfold tokG; rw [if_neg he, if_neg h92]
        have hb92 : (ch r.L q == 92) = false := by simpa using h92
        have HG := Lib.hid hg
        obtain ⟨x0, x1⟩ := isZ_bd hz
        clear he he' hc hg hp0 hz h92
        obtain ⟨c, hcc⟩ : ∃ c, ch r.L q = c := ⟨_, rfl⟩
        have HC := Lib.hid hcc
        rw [hcc] at cN cQ cE hb92 x0 x1
        clear hcc
        go_wp2_with (first | (go_at_call 112; ((with_reducible refine cQ.mono ?_); rintro e w'' ⟨rfl, rfl⟩)) | (go_at_call 221; ((with_reducible refine (cE _).mono ?_); rintro e w'' ⟨rfl, rfl⟩)))
        refine cN.mono ?_
        rintro e w2 ⟨rfl, hm2⟩
        have HM2 := Lib.hid (HM.out.trans hm2)
        have HB2 := Lib.hid (H.out.builder HB.out hm2)
        clear hm2 cN HB cQ HM
        go_wp2_with fail
        refine (writeRune_any w.heap.size w.heap.size (byteCells (encD acc)) _ (by omega) (by omega) w2 HB2.out (by rw [byteCells_length]; have := encD_len acc; have := HE.out.2.2; have := H.out.fix.len; omega) HM2.out.keeps.size).mono ?_
        rintro e w4 ⟨rfl, hI4, hb4⟩
        have HM4 := Lib.hid (HM2.out.own H.out hb4)
        have HB4 := Lib.hid hI4
        have HP1 := Lib.hid HM4.out.rd.posIn
        clear hI4 hb4 HM2 HB2
        go_wp2
        go_roundw
        case rel => exact ⟨k, q + 1, acc ++ [ch r.L q], pl, rfl, HM4, Lib.hid (by rw [encD_snoc, byteCells_append, byteCells_encodeRune, HC.out]; exact HB4.out), Lib.hid ⟨HG.out, by have := HE.out.2.1; omega, by have := HE.out.2.2; simp; omega⟩⟩
        case measure =>
          rw [HP0.out, HP1.out]
          show r.L.length - (q + 1) < r.L.length - q
          omega
end
end Go.Proofs.YtbbopdkbokbafaaGreatDoor
