/- The reader's parts end with enough rounds, and take a character at least; plain. -/
import Derived.Test.YtbbopdkbokbafaaGreatDoorRdSpec
namespace Go.Proofs.YtbbopdkbokbafaaGreatDoor
open Go.RowKit Go.Lib
theorem ch_lt {L : List Int} {p : Nat} (h : ch L p ≠ -1) : p < L.length := by
  by_cases hp : p < L.length
  · exact hp
  · exact absurd (by unfold ch; rw [List.getElem?_eq_none (by omega)]; rfl) h
theorem skipN_le : ∀ (b : Bool) (l : List Int), skipN b l ≤ l.length
  | b, [] => by cases b <;> simp [skipN]
  | true, c :: r => by
    have h1 := skipN_le false r
    have h2 := skipN_le true r
    unfold skipN
    simp only [List.length_cons]
    split <;> omega
  | false, c :: r => by
    have h1 := skipN_le false r
    have h2 := skipN_le true r
    unfold skipN
    simp only [List.length_cons]
    repeat' split
    all_goals omega
theorem skipTo_ge (L : List Int) (p : Nat) : p ≤ skipTo L p := Nat.le_add_right _ _
theorem skipTo_le {L : List Int} {p : Nat} (h : p ≤ L.length) : skipTo L p ≤ L.length := by
  have := skipN_le false (L.drop p)
  rw [List.length_drop] at this
  unfold skipTo
  omega
/-- What a part leaves, where it was given enough rounds. -/
def Out.Fine {α : Type} (L : List Int) (p opn : Nat) : Out α → Prop
  | .lost => False
  | .bad _ _ _ => True
  | .ok _ s => p < s.pos ∧ s.pos ≤ L.length ∧ s.opn = opn
def Got.Fine {α : Type} (L : List Int) (p : Nat) : Got α → Prop
  | .lost => False
  | .bad _ _ => True
  | .ok _ q => p ≤ q ∧ q ≤ L.length
theorem tokG_fine (L : List Int) : ∀ (n p : Nat) (acc : List Int) (pl : Bool), p ≤ L.length → L.length + 1 ≤ n + p → (tokG L n p acc pl).Fine L p
  | 0, p, acc, pl, h1, h2 => by omega
  | n + 1, p, acc, pl, h1, h2 => by
    unfold tokG
    by_cases he : ends (ch L p) = true
    · rw [if_pos he]; exact ⟨Nat.le_refl _, h1⟩
    · rw [if_neg he]
      have hp : p < L.length := ch_lt fun e => he (by rw [e]; rfl)
      by_cases hb : ch L p = 92
      · rw [if_pos hb]
        by_cases hn : ch L (p + 1) = -1
        · rw [if_pos hn]; trivial
        · rw [if_neg hn]
          have := ch_lt hn
          have ih := tokG_fine L n (p + 2) (acc ++ [ch L (p + 1)]) false (by omega) (by omega)
          revert ih
          cases tokG L n (p + 2) (acc ++ [ch L (p + 1)]) false with
          | ok a q => exact fun ih => ⟨by have := ih.1; omega, ih.2⟩
          | bad er a => exact fun _ => trivial
          | lost => exact fun ih => ih
      · rw [if_neg hb]
        have ih := tokG_fine L n (p + 1) (acc ++ [ch L p]) pl (by omega) (by omega)
        revert ih
        cases tokG L n (p + 1) (acc ++ [ch L p]) pl with
        | ok a q => exact fun ih => ⟨by have := ih.1; omega, ih.2⟩
        | bad er a => exact fun _ => trivial
        | lost => exact fun ih => ih
/-- A token takes a character at least, unless it ends at once. -/
theorem tokG_more (L : List Int) (n p : Nat) (acc : List Int) (pl : Bool) (_h1 : p ≤ L.length) (h2 : L.length + 1 ≤ n + p) (he : ends (ch L p) = false) {l : List Int × Bool} {q : Nat} (h : tokG L n p acc pl = .ok l q) : p < q ∧ q ≤ L.length := by
  have hp : p < L.length := ch_lt fun e => by rw [e] at he; cases he
  obtain ⟨m, rfl⟩ : ∃ m, n = m + 1 := ⟨n - 1, by omega⟩
  unfold tokG at h
  rw [if_neg (by rw [he]; decide)] at h
  by_cases hb : ch L p = 92
  · rw [if_pos hb] at h
    by_cases hn : ch L (p + 1) = -1
    · rw [if_pos hn] at h; cases h
    · rw [if_neg hn] at h
      have := ch_lt hn
      have ih := tokG_fine L m (p + 2) (acc ++ [ch L (p + 1)]) false (by omega) (by omega)
      rw [h] at ih
      exact ⟨by have := ih.1; omega, ih.2⟩
  · rw [if_neg hb] at h
    have ih := tokG_fine L m (p + 1) (acc ++ [ch L p]) pl (by omega) (by omega)
    rw [h] at ih
    exact ⟨by have := ih.1; omega, ih.2⟩
theorem numG_ge (L : List Int) : ∀ (k p : Nat) (n : Int), p ≤ (numG L k p n).2
  | 0, p, n => Nat.le_refl _
  | k + 1, p, n => by
    unfold numG
    split
    · have := numG_ge L k (p + 1) (16 * n + hexV (ch L p)); omega
    · exact Nat.le_refl _
theorem numberedG_fine (L : List Int) (start p : Nat) : (numberedG L start p).Fine L (p + 1) := by
  have h1 := numG_ge L 6 p 0
  unfold numberedG
  generalize numG L 6 p 0 = q at h1
  simp only
  by_cases c1 : q.2 = p + 6 ∧ isZ q.1 = false
  · rw [if_pos c1]; trivial
  · rw [if_neg c1]
    by_cases c2 : ch L q.2 = -1
    · rw [if_pos c2]; trivial
    · rw [if_neg c2]
      by_cases c3 : ch L q.2 ≠ 92 ∨ q.2 = p ∨ isZ q.1 = false
      · rw [if_pos c3]; trivial
      · rw [if_neg c3]
        have := ch_lt c2
        exact ⟨by omega, by omega⟩
theorem escapeG_fine (L : List Int) (start : Nat) : (escapeG L start).Fine L (start + 2) := by
  unfold escapeG
  simp only
  by_cases c1 : ch L (start + 1) = -1
  · rw [if_pos c1]; trivial
  · rw [if_neg c1]
    have hlt := ch_lt c1
    by_cases c2 : ch L (start + 1) = 10
    · rw [if_pos c2]; exact ⟨Nat.le_refl _, by omega⟩
    · rw [if_neg c2]
      by_cases c3 : ch L (start + 1) = 92 ∨ ch L (start + 1) = 34
      · rw [if_pos c3]; exact ⟨Nat.le_refl _, by omega⟩
      · rw [if_neg c3]
        by_cases c4 : ch L (start + 1) = 120
        · rw [if_pos c4]
          have := numberedG_fine L start (start + 2)
          revert this
          cases numberedG L start (start + 2) with
          | ok n p => exact fun h => ⟨by have := h.1; omega, h.2⟩
          | bad er a => exact fun _ => trivial
          | lost => exact fun h => h
        · rw [if_neg c4]
          cases control (ch L (start + 1)) with
          | some x => exact ⟨Nat.le_refl _, by omega⟩
          | none => trivial
theorem strG_fine (L : List Int) : ∀ (n p : Nat) (acc : List Int), p ≤ L.length → L.length + 1 ≤ n + p → (strG L n p acc).Fine L (p + 1)
  | 0, p, acc, h1, h2 => by omega
  | n + 1, p, acc, h1, h2 => by
    unfold strG
    by_cases c1 : ch L p = -1
    · rw [if_pos c1]; trivial
    · rw [if_neg c1]
      have hlt := ch_lt c1
      by_cases c2 : ch L p = 34
      · rw [if_pos c2]; exact ⟨Nat.le_refl _, by omega⟩
      · rw [if_neg c2]
        by_cases c3 : ch L p = 92
        · rw [if_pos c3]
          have := escapeG_fine L p
          revert this
          cases escapeG L p with
          | ok l q =>
            intro h
            have ih := strG_fine L n q (acc ++ l) h.2 (by have := h.1; omega)
            revert ih
            simp only
            cases strG L n q (acc ++ l) with
            | ok a r => exact fun ih => ⟨by have := ih.1; have := h.1; omega, ih.2⟩
            | bad er a => exact fun _ => trivial
            | lost => exact fun ih => ih
          | bad er a => exact fun _ => trivial
          | lost => exact fun h => h
        · rw [if_neg c3]
          have ih := strG_fine L n (p + 1) (acc ++ [ch L p]) (by omega) (by omega)
          revert ih
          cases strG L n (p + 1) (acc ++ [ch L p]) with
          | ok a r => exact fun ih => ⟨by have := ih.1; omega, ih.2⟩
          | bad er a => exact fun _ => trivial
          | lost => exact fun ih => ih
theorem modsG_fine (L : List Int) : ∀ (n p : Nat) (m : Bool × Bool × Bool), p ≤ L.length → L.length + 1 ≤ n + p → (modsG L n p m).Fine L p
  | 0, p, m, h1, h2 => by omega
  | n + 1, p, m, h1, h2 => by
    unfold modsG
    by_cases c1 : ch L p = 92 ∧ ch L (p + 2) = 45
    · rw [if_pos c1]
      have hlt : p + 2 < L.length := ch_lt (by rw [c1.2]; decide)
      have step : ∀ m', (modsG L n (p + 3) m').Fine L p := fun m' => by
        have ih := modsG_fine L n (p + 3) m' (by omega) (by omega)
        revert ih
        cases modsG L n (p + 3) m' with
        | ok a r => exact fun ih => ⟨by have := ih.1; omega, ih.2⟩
        | bad er a => exact fun _ => trivial
        | lost => exact fun ih => ih
      repeat' split
      all_goals first | exact step _ | exact ⟨Nat.le_refl _, h1⟩
    · rw [if_neg c1]; exact ⟨Nat.le_refl _, h1⟩
theorem escapedG_fine (L : List Int) (start : Nat) : (escapedG L start).Fine L (start + 2) := by
  unfold escapedG
  simp only
  by_cases c1 : ch L (start + 1) = -1
  · rw [if_pos c1]; trivial
  · rw [if_neg c1]
    have hlt := ch_lt c1
    repeat' split
    all_goals first | exact ⟨Nat.le_refl _, by omega⟩ | trivial
theorem charG_fine (L : List Int) (n p : Nat) (h1 : p + 1 ≤ L.length) (h2 : L.length + 1 ≤ n + (p + 1)) : (charG L n p).Fine L (p + 2) := by
  unfold charG
  have := modsG_fine L n (p + 1) (false, false, false) h1 h2
  revert this
  cases modsG L n (p + 1) (false, false, false) with
  | lost => exact fun h => h
  | bad er a => exact fun _ => trivial
  | ok m q =>
    intro h
    simp only
    by_cases c1 : ch L q = -1
    · rw [if_pos c1]; trivial
    · rw [if_neg c1]
      have hlt := ch_lt c1
      have hx : (if ch L q = 92 then escapedG L q else Got.ok (ch L q) (q + 1)).Fine L (q + 1) := by
        by_cases c2 : ch L q = 92
        · rw [if_pos c2]
          have := escapedG_fine L q
          revert this
          cases escapedG L q with
          | lost => exact fun h => h
          | bad er a => exact fun _ => trivial
          | ok c r => exact fun h => ⟨by have := h.1; omega, h.2⟩
        · rw [if_neg c2]; exact ⟨Nat.le_refl _, by omega⟩
      revert hx
      cases (if ch L q = 92 then escapedG L q else Got.ok (ch L q) (q + 1)) with
      | lost => exact fun h => h
      | bad er a => exact fun _ => trivial
      | ok c r =>
        intro hx
        simp only
        split
        · exact ⟨by have := hx.1; have := h.1; omega, hx.2⟩
        · trivial
theorem makeO_fine (L : List Int) (s : Rs) (o : Ob) (start : Int) {p : Nat} (h1 : p < s.pos) (h2 : s.pos ≤ L.length) : (makeO s o start).Fine L p s.opn := by
  unfold makeO
  split
  · trivial
  · exact ⟨h1, h2, rfl⟩
theorem internO_fine (L : List Int) (s : Rs) (l : List Int) (start : Int) {p : Nat} (h1 : p < s.pos) (h2 : s.pos ≤ L.length) : (internO s l start).Fine L p s.opn := by
  unfold internO
  split
  · trivial
  · exact ⟨h1, h2, rfl⟩
theorem chainO_fine (L : List Int) (start : Int) {p : Nat} : ∀ (l : List Wd) (s : Rs) (x : Wd), p < s.pos → s.pos ≤ L.length → (chainO start s l x).Fine L p s.opn
  | [], s, x, h1, h2 => ⟨h1, h2, rfl⟩
  | a :: r, s, x, h1, h2 => by
    unfold chainO makeO
    split
    · rename_i hm
      split at hm
      · cases hm
      · cases hm
        exact chainO_fine L start r { s with h := (s.h.make (.pair a x)).1 } _ h1 h2
    · trivial
    · rename_i hm
      split at hm <;> cases hm
theorem tokenO_fine (L : List Int) (n : Nat) (s : Rs) (h1 : s.pos ≤ L.length) (h2 : L.length + 1 ≤ n + s.pos) (he : ends (ch L s.pos) = false) : (tokenO L n s).Fine L s.pos s.opn := by
  unfold tokenO
  have := tokG_fine L n s.pos [] true h1 h2
  have hm := fun l q => tokG_more L n s.pos [] true h1 h2 he (l := l) (q := q)
  revert this hm
  cases tokG L n s.pos [] true with
  | lost => exact fun h _ => h
  | bad er a => exact fun _ _ => trivial
  | ok l q =>
    intro _ hm
    have h3 := hm l q rfl
    simp only
    repeat' split
    all_goals first | trivial | exact ⟨h3.1, h3.2, rfl⟩ | exact internO_fine L { s with pos := q } _ _ h3.1 h3.2
theorem quotationO_fine (L : List Int) (n : Nat) (s : Rs) (h1 : s.pos + 1 ≤ L.length) (h2 : L.length + 1 ≤ n + (s.pos + 1)) : (quotationO L n s).Fine L s.pos s.opn := by
  unfold quotationO
  have := strG_fine L n (s.pos + 1) [] h1 h2
  revert this
  cases strG L n (s.pos + 1) [] with
  | lost => exact fun h => h
  | bad er a => exact fun _ => trivial
  | ok l q =>
    intro h
    simp only
    unfold textO
    split
    · trivial
    · exact makeO_fine L { s with pos := q } _ _ (by have := h.1; simp only; omega) h.2
theorem characterO_fine (L : List Int) (n : Nat) (s : Rs) (h1 : s.pos + 1 ≤ L.length) (h2 : L.length + 1 ≤ n + (s.pos + 1)) : (characterO L n s).Fine L s.pos s.opn := by
  unfold characterO
  have := charG_fine L n s.pos h1 h2
  revert this
  cases charG L n s.pos with
  | lost => exact fun h => h
  | bad er a => exact fun _ => trivial
  | ok c q => exact fun h => ⟨by have := h.1; simp only; omega, h.2, rfl⟩
/-- The reader of the forms within is fine from p on. -/
def RdFine (L : List Int) (rd : Rs → Out Wd) (p : Nat) : Prop := ∀ s : Rs, p ≤ s.pos → s.pos ≤ L.length → (rd s).Fine L s.pos s.opn
theorem tailO_fine (L : List Int) (rd : Rs → Out Wd) (s : Rs) (hr : RdFine L rd (s.pos + 1)) (h1 : s.pos + 1 ≤ L.length) : (tailO L rd s).Fine L s.pos s.opn := by
  unfold tailO
  have := hr { s with pos := s.pos + 1 } (Nat.le_refl _) h1
  revert this
  cases rd { s with pos := s.pos + 1 } with
  | lost => exact fun h => h
  | bad er a s' => exact fun _ => trivial
  | ok x s' =>
    intro h
    have := skipTo_ge L s'.pos
    have := skipTo_le h.2.1
    simp only
    split
    · exact ⟨by have := h.1; simp only at this ⊢; omega, by simp only; omega, h.2.2⟩
    · trivial
theorem elemsO_fine (L : List Int) (rd : Rs → Out Wd) : ∀ (n : Nat) (s : Rs) (acc : List Wd), RdFine L rd s.pos → s.pos ≤ L.length → L.length + 1 ≤ n + s.pos →
    match elemsO L rd n s acc with | .lost => False | .bad _ _ _ => True | .ok _ s' => s.pos ≤ s'.pos ∧ s'.pos < L.length ∧ s'.opn = s.opn
  | 0, s, acc, hr, h1, h2 => by omega
  | n + 1, s, acc, hr, h1, h2 => by
    unfold elemsO
    have g1 := skipTo_ge L s.pos
    have g2 := skipTo_le h1
    by_cases c1 : ch L (skipTo L s.pos) = 41
    · rw [if_pos c1]
      exact ⟨g1, ch_lt (by rw [c1]; decide), rfl⟩
    · rw [if_neg c1]
      by_cases c2 : 0 < acc.length ∧ atDot L (skipTo L s.pos) = true
      · rw [if_pos c2]
        have hlt : skipTo L s.pos < L.length := ch_lt fun e => by
          have := c2.2
          unfold atDot at this
          rw [e] at this
          simp at this
        have ht := tailO_fine L rd { s with pos := skipTo L s.pos } (fun s' k1 k2 => hr s' (by simp only at k1; omega) k2) hlt
        unfold tailO at ht ⊢
        simp only at ht ⊢
        revert ht
        cases hx : rd { s with pos := skipTo L s.pos + 1 } with
        | lost => exact fun h => h
        | bad er a s' => exact fun _ => trivial
        | ok x s' =>
          have hk := hr { s with pos := skipTo L s.pos + 1 } (by simp only; omega) hlt
          rw [hx] at hk
          have := skipTo_ge L s'.pos
          simp only
          by_cases c3 : ch L (skipTo L s'.pos) = 41
          · rw [if_pos c3]
            exact fun _ => ⟨by have := hk.1; simp only at this ⊢; omega, ch_lt (by rw [c3]; decide), hk.2.2⟩
          · rw [if_neg c3]; exact fun _ => trivial
      · rw [if_neg c2]
        have hk := hr { s with pos := skipTo L s.pos } (by simp only; omega) (by simp only; omega)
        revert hk
        cases rd { s with pos := skipTo L s.pos } with
        | lost => exact fun h => h
        | bad er a s' => exact fun _ => trivial
        | ok x s' =>
          intro hk
          have k1 := hk.1
          simp only at k1 ⊢
          have ih := elemsO_fine L rd n s' (acc ++ [x]) (fun s2 q1 q2 => hr s2 (by omega) q2) hk.2.1 (by omega)
          revert ih
          cases elemsO L rd n s' (acc ++ [x]) with
          | lost => exact fun h => h
          | bad er a s2 => exact fun _ => trivial
          | ok y s2 => exact fun ih => ⟨by have := ih.1; omega, ih.2.1, ih.2.2.trans hk.2.2⟩
theorem itemsO_fine (L : List Int) (rd : Rs → Out Wd) : ∀ (n : Nat) (s : Rs) (acc : List Wd), RdFine L rd s.pos → s.pos ≤ L.length → L.length + 1 ≤ n + s.pos →
    match itemsO L rd n s acc with | .lost => False | .bad _ _ _ => True | .ok _ s' => s.pos ≤ s'.pos ∧ s'.pos < L.length ∧ s'.opn = s.opn
  | 0, s, acc, hr, h1, h2 => by omega
  | n + 1, s, acc, hr, h1, h2 => by
    unfold itemsO
    have g1 := skipTo_ge L s.pos
    have g2 := skipTo_le h1
    by_cases c1 : ch L (skipTo L s.pos) = 93
    · rw [if_pos c1]
      exact ⟨g1, ch_lt (by rw [c1]; decide), rfl⟩
    · rw [if_neg c1]
      have hk := hr { s with pos := skipTo L s.pos } (by simp only; omega) (by simp only; omega)
      revert hk
      cases rd { s with pos := skipTo L s.pos } with
      | lost => exact fun h => h
      | bad er a s' => exact fun _ => trivial
      | ok x s' =>
        intro hk
        have k1 := hk.1
        simp only at k1 ⊢
        have ih := itemsO_fine L rd n s' (acc ++ [x]) (fun s2 q1 q2 => hr s2 (by omega) q2) hk.2.1 (by omega)
        revert ih
        cases itemsO L rd n s' (acc ++ [x]) with
        | lost => exact fun h => h
        | bad er a s2 => exact fun _ => trivial
        | ok y s2 => exact fun ih => ⟨by have := ih.1; omega, ih.2.1, ih.2.2.trans hk.2.2⟩
theorem listO_fine (L : List Int) (rd : Rs → Out Wd) (n : Nat) (s : Rs) (hr : RdFine L rd (s.pos + 1)) (h1 : s.pos + 1 ≤ L.length) (h2 : L.length + 1 ≤ n + (s.pos + 1)) : (listO L rd n s).Fine L s.pos s.opn := by
  unfold listO
  split
  · trivial
  · have := elemsO_fine L rd n { s with opn := s.opn + 1, pos := s.pos + 1 } [] hr h1 h2
    revert this
    cases elemsO L rd n { s with opn := s.opn + 1, pos := s.pos + 1 } [] with
    | lost => exact fun h => h
    | bad er a s' => exact fun _ => trivial
    | ok y s' =>
      intro h
      have h3 := h.2.2
      simp only at h h3 ⊢
      have := chainO_fine L s.pos (p := s.pos) y.1.reverse { s' with opn := s'.opn - 1, pos := s'.pos + 1 } y.2 (by have := h.1; simp only; omega) (by have := h.2.1; simp only; omega)
      simp only at this
      rw [show s'.opn - 1 = s.opn by omega] at this ⊢
      exact this
theorem vectorO_fine (L : List Int) (rd : Rs → Out Wd) (n : Nat) (s : Rs) (hr : RdFine L rd (s.pos + 1)) (h1 : s.pos + 1 ≤ L.length) (h2 : L.length + 1 ≤ n + (s.pos + 1)) : (vectorO L rd n s).Fine L s.pos s.opn := by
  unfold vectorO
  split
  · trivial
  · have := itemsO_fine L rd n { s with opn := s.opn + 1, pos := s.pos + 1 } [] hr h1 h2
    revert this
    cases itemsO L rd n { s with opn := s.opn + 1, pos := s.pos + 1 } [] with
    | lost => exact fun h => h
    | bad er a s' => exact fun _ => trivial
    | ok y s' =>
      intro h
      have h3 := h.2.2
      simp only at h h3 ⊢
      have := makeO_fine L { s' with opn := s'.opn - 1, pos := s'.pos + 1 } (.vec y) s.pos (p := s.pos) (by have := h.1; simp only; omega) (by have := h.2.1; simp only; omega)
      simp only at this
      rw [show s'.opn - 1 = s.opn by omega] at this ⊢
      exact this
theorem prefixedO_fine (L : List Int) (rd : Rs → Out Wd) (k : Nat) (name : Int) (s : Rs) (hk : 0 < k) (hr : RdFine L rd (s.pos + 1)) (h1 : s.pos + k ≤ L.length) : (prefixedO rd k name s).Fine L s.pos s.opn := by
  unfold prefixedO
  split
  · trivial
  · have := hr { s with opn := s.opn + 1, pos := s.pos + k } (by simp only; omega) h1
    revert this
    cases rd { s with opn := s.opn + 1, pos := s.pos + k } with
    | lost => exact fun h => h
    | bad er a s' => exact fun _ => trivial
    | ok y s' =>
      intro h
      have h3 := h.2.2
      simp only at h h3 ⊢
      have := chainO_fine L s.pos (p := s.pos) [y, (1, name)] { s' with opn := s'.opn - 1 } (1, 0) (by have := h.1; simp only at this ⊢; omega) h.2.1
      simp only at this
      rw [show s'.opn - 1 = s.opn by omega] at this ⊢
      exact this
theorem hashO_fine (L : List Int) (rd : Rs → Out Wd) (s : Rs) (hr : RdFine L rd (s.pos + 1)) : (hashO L rd s).Fine L s.pos s.opn := by
  unfold hashO
  by_cases c1 : ch L (s.pos + 1) = 39
  · rw [if_pos c1]
    have : s.pos + 1 < L.length := ch_lt (by rw [c1]; decide)
    exact prefixedO_fine L rd 2 3 s (by decide) hr (by omega)
  · rw [if_neg c1]
    by_cases c2 : ch L (s.pos + 1) = 35 ∧ ends (ch L (s.pos + 2)) = true
    · rw [if_pos c2]
      have : s.pos + 1 < L.length := ch_lt (by rw [c2.1]; decide)
      exact internO_fine L { s with pos := s.pos + 2 } [] s.pos (by simp only; omega) (by simp only; omega)
    · rw [if_neg c2]; trivial
theorem formAt_fine (L : List Int) (rd : Rs → Out Wd) (n : Nat) (s : Rs) (hr : RdFine L rd (s.pos + 1)) (h1 : s.pos ≤ L.length) (h2 : L.length + 1 ≤ n + s.pos) (hb : ∀ c, ch L s.pos = c → blank c = false ∧ c ≠ 59) : (formAt L rd n s).Fine L s.pos s.opn := by
  unfold formAt
  simp only
  have hlt : ∀ c : Int, ch L s.pos = c → c ≠ -1 → s.pos + 1 ≤ L.length := fun c e h => ch_lt (by rw [e]; exact h)
  by_cases c1 : ch L s.pos = 40
  · rw [if_pos c1]; exact listO_fine L rd n s hr (hlt _ c1 (by decide)) (by omega)
  rw [if_neg c1]
  by_cases c2 : ch L s.pos = 91
  · rw [if_pos c2]; exact vectorO_fine L rd n s hr (hlt _ c2 (by decide)) (by omega)
  rw [if_neg c2]
  by_cases c3 : ch L s.pos = 39
  · rw [if_pos c3]; exact prefixedO_fine L rd 1 2 s (by decide) hr (hlt _ c3 (by decide))
  rw [if_neg c3]
  by_cases c4 : ch L s.pos = 96
  · rw [if_pos c4]; exact prefixedO_fine L rd 1 4 s (by decide) hr (hlt _ c4 (by decide))
  rw [if_neg c4]
  by_cases c5 : ch L s.pos = 44
  · rw [if_pos c5]
    by_cases c6 : ch L (s.pos + 1) = 64
    · rw [if_pos c6]
      have : s.pos + 1 < L.length := ch_lt (by rw [c6]; decide)
      exact prefixedO_fine L rd 2 6 s (by decide) hr (by omega)
    · rw [if_neg c6]; exact prefixedO_fine L rd 1 5 s (by decide) hr (hlt _ c5 (by decide))
  rw [if_neg c5]
  by_cases c7 : ch L s.pos = 35
  · rw [if_pos c7]; exact hashO_fine L rd s hr
  rw [if_neg c7]
  by_cases c8 : ch L s.pos = 34
  · rw [if_pos c8]; exact quotationO_fine L n s (hlt _ c8 (by decide)) (by omega)
  rw [if_neg c8]
  by_cases c9 : ch L s.pos = 63
  · rw [if_pos c9]; exact characterO_fine L n s (hlt _ c9 (by decide)) (by omega)
  rw [if_neg c9]
  by_cases c10 : ch L s.pos = 41 ∨ ch L s.pos = 93 ∨ ch L s.pos = -1
  · rw [if_pos c10]; trivial
  rw [if_neg c10]
  refine tokenO_fine L n s h1 h2 ?_
  obtain ⟨b1, b2⟩ := hb _ rfl
  unfold ends delim
  rw [b1]
  simp
  omega
/-- Where the blanks end stands no blank, and no comment begins. -/
theorem skipN_stop : ∀ (l : List Int) (b : Bool), ∀ c, l[skipN b l]? = some c → blank c = false ∧ c ≠ 59
  | [], b, x, h => by cases b <;> simp [skipN] at h
  | c :: r, true, x, h => by
    unfold skipN at h
    by_cases h1 : c = 10
    · rw [if_pos h1, List.getElem?_cons_succ] at h; exact skipN_stop r false x h
    · rw [if_neg h1, List.getElem?_cons_succ] at h; exact skipN_stop r true x h
  | c :: r, false, x, h => by
    unfold skipN at h
    by_cases h1 : blank c = true
    · rw [if_pos h1, List.getElem?_cons_succ] at h; exact skipN_stop r false x h
    · rw [if_neg h1] at h
      by_cases h2 : c = 59
      · rw [if_pos h2, List.getElem?_cons_succ] at h; exact skipN_stop r true x h
      · rw [if_neg h2] at h
        cases h
        exact ⟨by simpa using h1, h2⟩
theorem skipTo_stop (L : List Int) (p : Nat) : ∀ c, ch L (skipTo L p) = c → blank c = false ∧ c ≠ 59 := by
  intro c e
  have := skipN_stop (L.drop p) false
  rw [List.getElem?_drop] at this
  unfold ch skipTo at e
  cases h : L[p + skipN false (L.drop p)]? with
  | none => rw [h] at e; subst e; exact ⟨rfl, by decide⟩
  | some d => rw [h] at e; subst e; exact this d h
/-- With enough rounds a form ends; it takes a character at least, and closes what it opens. -/
theorem formO_fine (L : List Int) : ∀ (n : Nat) (s : Rs), s.pos ≤ L.length → L.length + 2 ≤ n + s.pos → (formO L n s).Fine L s.pos s.opn
  | 0, s, h1, h2 => by omega
  | n + 1, s, h1, h2 => by
    unfold formO
    have g1 := skipTo_ge L s.pos
    have g2 := skipTo_le h1
    have := formAt_fine L (formO L n) n { s with pos := skipTo L s.pos } (fun s' k1 k2 => formO_fine L n s' k2 (by simp only at k1; omega)) g2 (by simp only; omega) (skipTo_stop L s.pos)
    revert this
    cases formAt L (formO L n) n { s with pos := skipTo L s.pos } with
    | lost => exact fun h => h
    | bad er a s' => exact fun _ => trivial
    | ok x s' => exact fun h => ⟨Nat.lt_of_le_of_lt g1 h.1, h.2⟩
end Go.Proofs.YtbbopdkbokbafaaGreatDoor
