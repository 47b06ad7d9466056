/- Brackets and prefixes around a 1; plain. -/
import Derived.Test.YtbbopdkbokbafaaGreatDoorRdFine
namespace Go.Proofs.YtbbopdkbokbafaaGreatDoor
open Go.RowKit Go.Lib
theorem drop_ch {L : List Int} {p : Nat} {c : Int} {r : List Int} (h : L.drop p = c :: r) : ch L p = c ∧ L.drop (p + 1) = r := by
  have h1 : L[p]? = some c := by
    have := congrArg (·[0]?) h
    simpa using this
  refine ⟨by unfold ch; rw [h1]; rfl, ?_⟩
  rw [← List.drop_drop, h]
  rfl
theorem drop_end {L : List Int} {p : Nat} (h : L.drop p = []) : ch L p = -1 := by
  have : L.length ≤ p := by simpa using h
  unfold ch
  rw [List.getElem?_eq_none this]
  rfl
/-- What follows ends a token. -/
def endsL : List Int → Bool
  | [] => true
  | c :: _ => ends c
theorem drop_ends {L : List Int} {p : Nat} {r : List Int} (h : L.drop p = r) (he : endsL r = true) : ends (ch L p) = true := by
  cases r with
  | nil => rw [drop_end h]; rfl
  | cons c r => rw [(drop_ch h).1]; exact he
theorem skip_none {L : List Int} {p : Nat} {c : Int} {r : List Int} (h : L.drop p = c :: r) (hb : blank c = false) (h2 : c ≠ 59) : skipTo L p = p := by
  unfold skipTo
  rw [h]
  simp [skipN, hb, h2]
def opD (k : Int) : List Int := if k = 0 then [40] else if k = 1 then [91] else if k = 2 then [39] else if k = 3 then [44, 64] else [35, 39]
def clD (k : Int) : List Int := if k = 0 then [41] else if k = 1 then [93] else []
def deepT : List Int → List Int
  | [] => [49]
  | k :: r => opD k ++ deepT r ++ clD k
theorem deepT_head : ∀ (ks : List Int), ∃ c r, deepT ks = c :: r ∧ blank c = false ∧ c ≠ 59 ∧ c ≠ 41 ∧ c ≠ 93 ∧ c ≠ 64
  | [] => ⟨49, [], rfl, by decide⟩
  | k :: r => by
    unfold deepT opD
    repeat' split
    all_goals exact ⟨_, _, rfl, by decide⟩
theorem clD_ends (k : Int) {rest : List Int} (h : endsL rest = true) : endsL (clD k ++ rest) = true := by
  unfold clD
  repeat' split
  · rfl
  · rfl
  · exact h
theorem one_ok (L : List Int) (n : Nat) (s : Rs) (rest : List Int) (h : L.drop s.pos = 49 :: rest) (he : endsL rest = true) : formO L (n + 3) s = .ok (0, 1) { s with pos := s.pos + 1 } := by
  obtain ⟨h1, h2⟩ := drop_ch h
  have h3 := drop_ends h2 he
  have ht : tokG L (n + 2) s.pos [] true = .ok ([49], true) (s.pos + 1) := by
    unfold tokG
    rw [h1, if_neg (by decide), if_neg (by decide)]
    unfold tokG
    rw [if_pos h3]
    rfl
  unfold formO
  rw [skip_none h (by decide) (by decide)]
  unfold formAt
  simp only [h1]
  rw [if_neg (by decide), if_neg (by decide), if_neg (by decide), if_neg (by decide), if_neg (by decide), if_neg (by decide), if_neg (by decide), if_neg (by decide), if_neg (by decide)]
  unfold tokenO
  simp only [ht]
  rfl
/-- A heap with room for m objects of one element each. -/
structure Room (h : Hp) (m : Nat) : Prop where
  obs : h.obs.length + m ≤ h.lim
  size : total h.obs + m ≤ 1048576
theorem Room.make {h : Hp} {m : Nat} (r : Room h (m + 1)) {o : Ob} (ho : o.size ≤ 1) : (h.make o).2.2 = 0 ∧ Room (h.make o).1 m := by
  obtain ⟨r1, r2⟩ := r
  unfold Hp.make
  rw [if_neg (by omega)]
  refine ⟨rfl, ?_, ?_⟩
  · simp only [Hp.addNew, List.length_append, List.length_cons, List.length_nil]; omega
  · simp only [Hp.addNew, total, List.map_append, List.sum_append, List.map_cons, List.map_nil, List.sum_cons, List.sum_nil, osize] at r2 ⊢; omega
theorem Room.mono {h : Hp} {m k : Nat} (r : Room h m) (hk : k ≤ m) : Room h k := ⟨by have := r.obs; omega, by have := r.size; omega⟩
theorem makeO_room {s : Rs} {m : Nat} (r : Room s.h (m + 1)) {o : Ob} (ho : o.size ≤ 1) (start : Int) : ∃ x h', makeO s o start = .ok x { s with h := h' } ∧ Room h' m := by
  obtain ⟨h1, h2⟩ := r.make ho
  refine ⟨(s.h.make o).2.1, (s.h.make o).1, ?_, h2⟩
  unfold makeO
  rw [if_neg (by rw [h1]; decide)]
theorem chain1 {s : Rs} {m : Nat} (r : Room s.h (m + 1)) (a last : Wd) (start : Int) : ∃ x h', chainO start s [a] last = .ok x { s with h := h' } ∧ Room h' m := by
  obtain ⟨x, h', h1, h2⟩ := makeO_room r (o := .pair a last) (Nat.zero_le _) start
  refine ⟨x, h', ?_, h2⟩
  unfold chainO
  rw [h1]
  rfl
theorem chain2 {s : Rs} {m : Nat} (r : Room s.h (m + 2)) (a b last : Wd) (start : Int) : ∃ x h', chainO start s [a, b] last = .ok x { s with h := h' } ∧ Room h' m := by
  obtain ⟨x, h', h1, h2⟩ := makeO_room r (o := .pair a last) (Nat.zero_le _) start
  obtain ⟨y, h2', h3, h4⟩ := chain1 (s := { s with h := h' }) h2 b x start
  refine ⟨y, h2', ?_, h4⟩
  unfold chainO
  rw [h1]
  exact h3
theorem prefixed_ok {rd : Rs → Out Wd} {k : Nat} {name : Int} {s : Rs} {q m : Nat} {x : Wd} {h1 : Hp} (hopn : s.opn < 200)
    (hr : rd { s with opn := s.opn + 1, pos := s.pos + k } = .ok x { s with h := h1, opn := s.opn + 1, pos := q }) (hm : Room h1 (m + 2)) :
    ∃ y h', prefixedO rd k name s = .ok y { s with h := h', pos := q } ∧ Room h' m := by
  obtain ⟨y, h', e1, e2⟩ := chain2 (s := { s with h := h1, pos := q }) hm x (1, name) (1, 0) s.pos
  refine ⟨y, h', ?_, e2⟩
  unfold prefixedO
  rw [if_neg (by omega), hr]
  exact e1
theorem item_formAt {L : List Int} {n : Nat} {s : Rs} {c : Int} {r : List Int} (h : L.drop s.pos = c :: r) (hb : blank c = false) (h2 : c ≠ 59) : formO L (n + 1) s = formAt L (formO L n) n s := by
  unfold formO
  rw [skip_none h hb h2]
theorem list_one {L : List Int} {rd : Rs → Out Wd} {n : Nat} {s : Rs} {q m : Nat} {x : Wd} {h1 : Hp} {c : Int} {r r' : List Int} (ho : s.opn < 200) (hd : L.drop (s.pos + 1) = c :: r) (hb : blank c = false) (h2 : c ≠ 59) (h3 : c ≠ 41)
    (hr : rd { s with opn := s.opn + 1, pos := s.pos + 1 } = .ok x { s with h := h1, opn := s.opn + 1, pos := q }) (hq : L.drop q = 41 :: r') (hm : Room h1 (m + 1)) :
    ∃ y h', listO L rd (n + 2) s = .ok y { s with h := h', pos := q + 1 } ∧ Room h' m := by
  obtain ⟨y, h', e1, e2⟩ := chain1 (s := { s with h := h1, pos := q + 1 }) hm x (1, 0) s.pos
  refine ⟨y, h', ?_, e2⟩
  unfold listO
  rw [if_neg (by omega)]
  have he : elemsO L rd (n + 2) { s with opn := s.opn + 1, pos := s.pos + 1 } [] = .ok ([x], (1, 0)) { s with h := h1, opn := s.opn + 1, pos := q } := by
    unfold elemsO
    simp only
    rw [skip_none hd hb h2, (drop_ch hd).1, if_neg h3, if_neg (by simp), hr]
    simp only
    unfold elemsO
    simp only
    rw [skip_none hq (by decide) (by decide), (drop_ch hq).1, if_pos rfl]
    rfl
  rw [he]
  exact e1
theorem vec_one {L : List Int} {rd : Rs → Out Wd} {n : Nat} {s : Rs} {q m : Nat} {x : Wd} {h1 : Hp} {c : Int} {r r' : List Int} (ho : s.opn < 200) (hd : L.drop (s.pos + 1) = c :: r) (hb : blank c = false) (h2 : c ≠ 59) (h3 : c ≠ 93)
    (hr : rd { s with opn := s.opn + 1, pos := s.pos + 1 } = .ok x { s with h := h1, opn := s.opn + 1, pos := q }) (hq : L.drop q = 93 :: r') (hm : Room h1 (m + 1)) :
    ∃ y h', vectorO L rd (n + 2) s = .ok y { s with h := h', pos := q + 1 } ∧ Room h' m := by
  obtain ⟨y, h', e1, e2⟩ := makeO_room (s := { s with h := h1, pos := q + 1 }) hm (o := .vec [x]) (Nat.le_refl _) s.pos
  refine ⟨y, h', ?_, e2⟩
  unfold vectorO
  rw [if_neg (by omega)]
  have he : itemsO L rd (n + 2) { s with opn := s.opn + 1, pos := s.pos + 1 } [] = .ok [x] { s with h := h1, opn := s.opn + 1, pos := q } := by
    unfold itemsO
    simp only
    rw [skip_none hd hb h2, (drop_ch hd).1, if_neg h3, hr]
    simp only
    unfold itemsO
    simp only
    rw [skip_none hq (by decide) (by decide), (drop_ch hq).1, if_pos rfl]
    rfl
  rw [he]
  exact e1
theorem formAt_40 {L : List Int} {rd : Rs → Out Wd} {n : Nat} {s : Rs} (h : ch L s.pos = 40) : formAt L rd n s = listO L rd n s := by unfold formAt; simp [h]
theorem formAt_91 {L : List Int} {rd : Rs → Out Wd} {n : Nat} {s : Rs} (h : ch L s.pos = 91) : formAt L rd n s = vectorO L rd n s := by unfold formAt; simp [h]
theorem formAt_39 {L : List Int} {rd : Rs → Out Wd} {n : Nat} {s : Rs} (h : ch L s.pos = 39) : formAt L rd n s = prefixedO rd 1 2 s := by unfold formAt; simp [h]
theorem formAt_splice {L : List Int} {rd : Rs → Out Wd} {n : Nat} {s : Rs} (h : ch L s.pos = 44) (h2 : ch L (s.pos + 1) = 64) : formAt L rd n s = prefixedO rd 2 6 s := by unfold formAt; simp [h, h2]
theorem formAt_fun {L : List Int} {rd : Rs → Out Wd} {n : Nat} {s : Rs} (h : ch L s.pos = 35) (h2 : ch L (s.pos + 1) = 39) : formAt L rd n s = prefixedO rd 2 3 s := by unfold formAt hashO; simp [h, h2]
theorem ok_pos {x : Wd} {h : Hp} {t : Tb} {o p q : Nat} (e : p = q) : Out.ok x ⟨h, t, p, o⟩ = Out.ok x ⟨h, t, q, o⟩ := by rw [e]
/-- Any brackets and prefixes around a 1, not too many of them. -/
theorem deep_ok (L : List Int) : ∀ (ks : List Int) (n m : Nat) (s : Rs) (rest : List Int), L.drop s.pos = deepT ks ++ rest → endsL rest = true → s.opn + ks.length ≤ 200 → Room s.h (2 * ks.length + m) → ks.length + 3 ≤ n →
    ∃ x h', formO L n s = .ok x { s with h := h', pos := s.pos + (deepT ks).length } ∧ Room h' m
  | [], n, m, s, rest, hd, he, ho, hr, hn => by
    obtain ⟨j, rfl⟩ : ∃ j, n = j + 3 := ⟨n - 3, by simp at hn; omega⟩
    exact ⟨_, _, one_ok L j s rest hd he, hr.mono (by simp)⟩
  | k :: ks, n, m, s, rest, hd, he, ho, hr, hn => by
    obtain ⟨j, rfl⟩ : ∃ j, n = j + 3 := ⟨n - 3, by simp at hn; omega⟩
    simp only [List.length_cons] at ho hr hn
    have key : ∀ (q : Nat), L.drop q = deepT ks ++ (clD k ++ rest) → ∃ x h', formO L (j + 2) { s with opn := s.opn + 1, pos := q } = .ok x { s with h := h', opn := s.opn + 1, pos := q + (deepT ks).length } ∧ Room h' (m + 2) := by
      intro q hq
      obtain ⟨x, h', e1, e2⟩ := deep_ok L ks (j + 2) (m + 2) { s with opn := s.opn + 1, pos := q } _ hq (clD_ends k he) (by simp only; omega) (hr.mono (by omega)) (by omega)
      exact ⟨x, h', e1, e2⟩
    have hdrop : ∀ (a : List Int) (b : List Int) (p : Nat), L.drop p = a ++ b → L.drop (p + a.length) = b := fun a b p h => by rw [← List.drop_drop, h]; simp
    have hfull : L.drop s.pos = opD k ++ (deepT ks ++ (clD k ++ rest)) := by rw [hd]; simp [deepT]
    have hlen : (deepT (k :: ks)).length = (opD k).length + (deepT ks).length + (clD k).length := by simp [deepT]; omega
    obtain ⟨c, r, ec, hb, h59, h41, h93, h64⟩ := deepT_head ks
    have hin := hdrop _ _ _ hfull
    obtain ⟨x, h', e1, e2⟩ := key _ hin
    have hout := hdrop _ _ _ hin
    rw [hlen]
    by_cases k0 : k = 0
    · have o1 : opD k = [40] := by simp [opD, k0]
      have o2 : clD k = [41] := by simp [clD, k0]
      rw [o1] at hfull hin e1 hout ⊢
      rw [o2] at hout ⊢
      rw [item_formAt hfull (by decide) (by decide)]
      rw [formAt_40 (drop_ch hfull).1]
      rw [ec] at hin
      obtain ⟨y, h2, f1, f2⟩ := list_one (n := j) (by omega) hin hb h59 h41 e1 hout (m := m + 1) e2
      exact ⟨y, h2, f1.trans (ok_pos (by simp; omega)), f2.mono (by omega)⟩
    by_cases k1 : k = 1
    · have o1 : opD k = [91] := by simp [opD, k1]
      have o2 : clD k = [93] := by simp [clD, k1]
      rw [o1] at hfull hin e1 hout ⊢
      rw [o2] at hout ⊢
      rw [item_formAt hfull (by decide) (by decide)]
      rw [formAt_91 (drop_ch hfull).1]
      rw [ec] at hin
      obtain ⟨y, h2, f1, f2⟩ := vec_one (n := j) (by omega) hin hb h59 h93 e1 hout (m := m + 1) e2
      exact ⟨y, h2, f1.trans (ok_pos (by simp; omega)), f2.mono (by omega)⟩
    have o2 : clD k = [] := by simp [clD, k0, k1]
    rw [o2]
    simp only [List.length_nil, Nat.add_zero]
    by_cases k2 : k = 2
    · have o1 : opD k = [39] := by simp [opD, k2]
      rw [o1] at hfull hin e1 hout ⊢
      rw [item_formAt hfull (by decide) (by decide)]
      rw [formAt_39 (drop_ch hfull).1]
      obtain ⟨y, h2, f1, f2⟩ := prefixed_ok (rd := formO L (j + 2)) (k := 1) (name := 2) (by omega) e1 (m := m) e2
      exact ⟨y, h2, f1.trans (ok_pos (by simp; omega)), f2⟩
    by_cases k3 : k = 3
    · have o1 : opD k = [44, 64] := by simp [opD, k3]
      rw [o1] at hfull hin e1 hout ⊢
      rw [item_formAt hfull (by decide) (by decide)]
      have hc := drop_ch hfull
      rw [formAt_splice hc.1 (drop_ch hc.2).1]
      obtain ⟨y, h2, f1, f2⟩ := prefixed_ok (rd := formO L (j + 2)) (k := 2) (name := 6) (by omega) e1 (m := m) e2
      exact ⟨y, h2, f1.trans (ok_pos (by simp; omega)), f2⟩
    have o1 : opD k = [35, 39] := by simp [opD, k0, k1, k2, k3]
    rw [o1] at hfull hin e1 hout ⊢
    rw [item_formAt hfull (by decide) (by decide)]
    have hc := drop_ch hfull
    rw [formAt_fun hc.1 (drop_ch hc.2).1]
    obtain ⟨y, h2, f1, f2⟩ := prefixed_ok (rd := formO L (j + 2)) (k := 2) (name := 3) (by omega) e1 (m := m) e2
    exact ⟨y, h2, f1.trans (ok_pos (by simp; omega)), f2⟩
/-- What opens the first brackets and prefixes. -/
def opensD (ks : List Int) : List Int := ks.flatMap opD
/-- One too many. -/
theorem deep_bad (L : List Int) : ∀ (ks : List Int) (n : Nat) (s : Rs) (rest : List Int), L.drop s.pos = deepT ks ++ rest → s.opn ≤ 200 → 200 < s.opn + ks.length → ks.length + 3 ≤ n →
    ∃ s', formO L n s = .bad 12 ((s.pos + (opensD (ks.take (200 - s.opn))).length : Nat) : Int) s'
  | [], n, s, rest, hd, ho, hl, hn => by simp at hl; omega
  | k :: ks, n, s, rest, hd, ho, hl, hn => by
    obtain ⟨j, rfl⟩ : ∃ j, n = j + 3 := ⟨n - 3, by simp at hn; omega⟩
    simp only [List.length_cons] at hl hn
    have hdrop : ∀ (a : List Int) (b : List Int) (p : Nat), L.drop p = a ++ b → L.drop (p + a.length) = b := fun a b p h => by rw [← List.drop_drop, h]; simp
    have hfull : L.drop s.pos = opD k ++ (deepT ks ++ (clD k ++ rest)) := by rw [hd]; simp [deepT]
    obtain ⟨c, r, ec, hb, h59, h41, h93, h64⟩ := deepT_head ks
    have hin := hdrop _ _ _ hfull
    by_cases hop : s.opn = 200
    · have hz : (opensD ((k :: ks).take (200 - s.opn))).length = 0 := by rw [hop]; rfl
      rw [hz]
      simp only [Nat.add_zero]
      refine ⟨s, ?_⟩
      have hlist : ∀ n, listO L (formO L (j + 2)) n s = .bad 12 s.pos s := fun n => by unfold listO; rw [if_pos hop]
      have hvec : ∀ n, vectorO L (formO L (j + 2)) n s = .bad 12 s.pos s := fun n => by unfold vectorO; rw [if_pos hop]
      have hpre : ∀ a b, prefixedO (formO L (j + 2)) a b s = .bad 12 s.pos s := fun a b => by unfold prefixedO; rw [if_pos hop]
      by_cases k0 : k = 0
      · have o1 : opD k = [40] := by simp [opD, k0]
        rw [o1] at hfull
        rw [item_formAt hfull (by decide) (by decide)]
        rw [formAt_40 (drop_ch hfull).1]
        exact hlist _
      by_cases k1 : k = 1
      · have o1 : opD k = [91] := by simp [opD, k1]
        rw [o1] at hfull
        rw [item_formAt hfull (by decide) (by decide)]
        rw [formAt_91 (drop_ch hfull).1]
        exact hvec _
      by_cases k2 : k = 2
      · have o1 : opD k = [39] := by simp [opD, k2]
        rw [o1] at hfull
        rw [item_formAt hfull (by decide) (by decide)]
        rw [formAt_39 (drop_ch hfull).1]
        exact hpre _ _
      by_cases k3 : k = 3
      · have o1 : opD k = [44, 64] := by simp [opD, k3]
        rw [o1] at hfull
        rw [item_formAt hfull (by decide) (by decide)]
        have hc := drop_ch hfull
        rw [formAt_splice hc.1 (drop_ch hc.2).1]
        exact hpre _ _
      have o1 : opD k = [35, 39] := by simp [opD, k0, k1, k2, k3]
      rw [o1] at hfull
      rw [item_formAt hfull (by decide) (by decide)]
      have hc := drop_ch hfull
      rw [formAt_fun hc.1 (drop_ch hc.2).1]
      exact hpre _ _
    obtain ⟨s', e1⟩ := deep_bad L ks (j + 2) { s with opn := s.opn + 1, pos := s.pos + (opD k).length } _ hin (by simp only; omega) (by simp only; omega) (by omega)
    have hlen : (s.pos + (opensD ((k :: ks).take (200 - s.opn))).length) = s.pos + (opD k).length + (opensD (ks.take (200 - (s.opn + 1)))).length := by
      rw [show 200 - s.opn = (200 - (s.opn + 1)) + 1 by omega, List.take_succ_cons]
      simp [opensD]
      omega
    rw [hlen]
    generalize ((s.pos + (opD k).length + (opensD (ks.take (200 - (s.opn + 1)))).length : Nat) : Int) = A at e1
    refine ⟨s', ?_⟩
    have hpre : ∀ a b, (opD k).length = a → prefixedO (formO L (j + 2)) a b s = .bad 12 A s' := fun a b ha => by unfold prefixedO; rw [if_neg hop, ← ha, e1]
    by_cases k0 : k = 0
    · have o1 : opD k = [40] := by simp [opD, k0]
      rw [o1] at hfull hin e1
      rw [item_formAt hfull (by decide) (by decide)]
      rw [formAt_40 (drop_ch hfull).1]
      unfold listO
      rw [if_neg hop]
      rw [ec] at hin
      have he : elemsO L (formO L (j + 2)) (j + 2) { s with opn := s.opn + 1, pos := s.pos + 1 } [] = .bad 12 A s' := by
        unfold elemsO
        simp only
        have hin1 : L.drop (s.pos + 1) = c :: (r ++ (clD k ++ rest)) := hin
        rw [skip_none hin1 hb h59, (drop_ch hin1).1, if_neg h41, if_neg (by simp)]
        have e2 : formO L (j + 2) { s with pos := s.pos + 1, opn := s.opn + 1 } = .bad 12 A s' := e1
        rw [e2]
      rw [he]
    by_cases k1 : k = 1
    · have o1 : opD k = [91] := by simp [opD, k1]
      rw [o1] at hfull hin e1
      rw [item_formAt hfull (by decide) (by decide)]
      rw [formAt_91 (drop_ch hfull).1]
      unfold vectorO
      rw [if_neg hop]
      rw [ec] at hin
      have he : itemsO L (formO L (j + 2)) (j + 2) { s with opn := s.opn + 1, pos := s.pos + 1 } [] = .bad 12 A s' := by
        unfold itemsO
        simp only
        have hin1 : L.drop (s.pos + 1) = c :: (r ++ (clD k ++ rest)) := hin
        rw [skip_none hin1 hb h59, (drop_ch hin1).1, if_neg h93]
        have e2 : formO L (j + 2) { s with pos := s.pos + 1, opn := s.opn + 1 } = .bad 12 A s' := e1
        rw [e2]
      rw [he]
    by_cases k2 : k = 2
    · have o1 : opD k = [39] := by simp [opD, k2]
      rw [o1] at hfull
      rw [item_formAt hfull (by decide) (by decide)]
      rw [formAt_39 (drop_ch hfull).1]
      exact hpre _ _ (by rw [o1]; rfl)
    by_cases k3 : k = 3
    · have o1 : opD k = [44, 64] := by simp [opD, k3]
      rw [o1] at hfull
      rw [item_formAt hfull (by decide) (by decide)]
      have hc := drop_ch hfull
      rw [formAt_splice hc.1 (drop_ch hc.2).1]
      exact hpre _ _ (by rw [o1]; rfl)
    have o1 : opD k = [35, 39] := by simp [opD, k0, k1, k2, k3]
    rw [o1] at hfull
    rw [item_formAt hfull (by decide) (by decide)]
    have hc := drop_ch hfull
    rw [formAt_fun hc.1 (drop_ch hc.2).1]
    exact hpre _ _ (by rw [o1]; rfl)
end Go.Proofs.YtbbopdkbokbafaaGreatDoor
