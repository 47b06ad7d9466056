/- The contract of the reader's form, by induction on its rounds. Conditions: unicode/utf8's two tables; strconv.ErrRange holds an error, or nil. -/
import Derived.Test.YtbbopdkbokbafaaGreatDoorRdVec
import Derived.Test.YtbbopdkbokbafaaGreatDoorRdDeepSpec
namespace Go.Proofs.YtbbopdkbokbafaaGreatDoor
open Go.RowKit Go.Lib
/-- What quotation does, where the text holds a quote. -/
def QuoOk (w0 : World) (r : Rd) : Prop := ∀ (F : Nat → Nat) (s : Rs) (w : World) (n : Nat), RdAt w0 w r F s → ch r.L s.pos = 34 → r.L.length + 1 ≤ n + (s.pos + 1) → Calls Tryz.prog 163 #[rp r] w fun e w' => Does w0 w r F (quotationO r.L n s) e w'
/-- What character does, where the text holds a question mark. -/
def ChrOk (w0 : World) (r : Rd) : Prop := ∀ (F : Nat → Nat) (s : Rs) (w : World) (n : Nat), RdAt w0 w r F s → ch r.L s.pos = 63 → r.L.length + 1 ≤ n + (s.pos + 1) → Calls Tryz.prog 164 #[rp r] w fun e w' => Does w0 w r F (characterO r.L n s) e w'
theorem QuoOk.none {w0 : World} {r : Rd} (h : ∀ c ∈ r.L, c ≠ 34) : QuoOk w0 r := fun F s w n _ hc _ => by
  have hp := ch_lt (L := r.L) (p := s.pos) (by rw [hc]; decide)
  have : r.L[s.pos]? = some 34 := by
    unfold ch at hc
    rw [List.getElem?_eq_getElem hp] at hc ⊢
    simpa using hc
  exact absurd rfl (h 34 (List.mem_of_getElem? this))
theorem ChrOk.none {w0 : World} {r : Rd} (h : ∀ c ∈ r.L, c ≠ 63) : ChrOk w0 r := fun F s w n _ hc _ => by
  have hp := ch_lt (L := r.L) (p := s.pos) (by rw [hc]; decide)
  have : r.L[s.pos]? = some 63 := by
    unfold ch at hc
    rw [List.getElem?_eq_getElem hp] at hc ⊢
    simpa using hc
  exact absurd rfl (h 63 (List.mem_of_getElem? this))
theorem Does.of {w0 w w' : World} {r : Rd} {F : Nat → Nat} {er a : Int} {s : Rs} {e : Ending} (h : e = Panics er a ∧ BadR w0 w w' r F s) : Does w0 w r F (.bad er a s) e w' := h
theorem formAt_96 {L : List Int} {rd : Rs → Out Wd} {n : Nat} {s : Rs} (h : ch L s.pos = 96) : formAt L rd n s = prefixedO rd 1 4 s := by unfold formAt; simp [h]
theorem formAt_44 {L : List Int} {rd : Rs → Out Wd} {n : Nat} {s : Rs} (h : ch L s.pos = 44) (h2 : ch L (s.pos + 1) ≠ 64) : formAt L rd n s = prefixedO rd 1 5 s := by unfold formAt; simp [h, h2]
theorem formAt_35 {L : List Int} {rd : Rs → Out Wd} {n : Nat} {s : Rs} (h : ch L s.pos = 35) : formAt L rd n s = hashO L rd s := by unfold formAt; simp [h]
theorem formAt_34 {L : List Int} {rd : Rs → Out Wd} {n : Nat} {s : Rs} (h : ch L s.pos = 34) : formAt L rd n s = quotationO L n s := by unfold formAt; simp [h]
theorem formAt_63 {L : List Int} {rd : Rs → Out Wd} {n : Nat} {s : Rs} (h : ch L s.pos = 63) : formAt L rd n s = characterO L n s := by unfold formAt; simp [h]
theorem formAt_stray {L : List Int} {rd : Rs → Out Wd} {n : Nat} {s : Rs} (h : ch L s.pos = 41 ∨ ch L s.pos = 93 ∨ ch L s.pos = -1) : formAt L rd n s = .bad 5 s.pos s := by
  unfold formAt
  rcases h with h | h | h <;> simp [h]
theorem formAt_token {L : List Int} {rd : Rs → Out Wd} {n : Nat} {s : Rs} (h1 : ¬ ch L s.pos = 40) (h2 : ¬ ch L s.pos = 91) (h3 : ¬ ch L s.pos = 39) (h4 : ¬ ch L s.pos = 96) (h5 : ¬ ch L s.pos = 44) (h6 : ¬ ch L s.pos = 35) (h7 : ¬ ch L s.pos = 34) (h8 : ¬ ch L s.pos = 63) (h9 : ¬ (ch L s.pos = 41 ∨ ch L s.pos = 93 ∨ ch L s.pos = -1)) : formAt L rd n s = tokenO L n s := by
  unfold formAt
  simp only
  rw [if_neg h1, if_neg h2, if_neg h3, if_neg h4, if_neg h5, if_neg h6, if_neg h7, if_neg h8, if_neg h9]
section
variable {w0 w : World} {r : Rd} {F : Nat → Nat} {s : Rs}
/-- A prefix, whatever is open. -/
theorem prefixed_all (h : RdAt w0 w r F s) (n k : Nat) (K sym : Int) (hK : (k : Int) = K) (hk0 : 0 < k) (hk : s.pos + k ≤ r.L.length) (hF : FormOk w0 r n (s.pos + 1)) (hfi : RdFine r.L (formO r.L n) (s.pos + 1)) :
    Calls Tryz.prog 220 #[rp r, .int .i64 K, .int .i64 sym] w fun e w' => Does w0 w r F (prefixedO (formO r.L n) k sym s) e w' := by
  subst hK
  by_cases ho : s.opn = 200
  · unfold prefixedO
    rw [if_pos ho]
    exact prefixed_deep h k sym ho
  · have hf := hfi { s with opn := s.opn + 1, pos := s.pos + k } (by simp only; omega) hk
    exact prefixed_any h n k sym hk hk0 hF ho (fun e => by rw [e] at hf; exact hf) (fun x s' e => by rw [e] at hf; exact hf.2.2)
theorem list_all (h : RdAt w0 w r F s) (n : Nat) (hp : s.pos + 1 ≤ r.L.length) (hF : FormOk w0 r n (s.pos + 1)) (hfi : RdFine r.L (formO r.L n) (s.pos + 1)) (hm : r.L.length + 1 ≤ n + (s.pos + 1)) :
    Calls Tryz.prog 157 #[rp r] w fun e w' => Does w0 w r F (listO r.L (formO r.L n) n s) e w' := by
  by_cases ho : s.opn = 200
  · unfold listO
    rw [if_pos ho]
    exact list_deep h ho
  · have hf := elemsO_fine r.L (formO r.L n) n { s with opn := s.opn + 1, pos := s.pos + 1 } [] hfi hp hm
    exact list_any h n n hp hF hfi ho hm (fun e => by rw [e] at hf; exact hf)
theorem vector_all (h : RdAt w0 w r F s) (n : Nat) (hp : s.pos + 1 ≤ r.L.length) (hF : FormOk w0 r n (s.pos + 1)) (hfi : RdFine r.L (formO r.L n) (s.pos + 1)) (hm : r.L.length + 1 ≤ n + (s.pos + 1)) (h65 : r.L.length ≤ 65536) :
    Calls Tryz.prog 158 #[rp r] w fun e w' => Does w0 w r F (vectorO r.L (formO r.L n) n s) e w' := by
  by_cases ho : s.opn = 200
  · unfold vectorO
    rw [if_pos ho]
    exact vector_deep h ho
  · have hf := itemsO_fine r.L (formO r.L n) n { s with opn := s.opn + 1, pos := s.pos + 1 } [] hfi hp hm
    exact vector_any h n n hp hF hfi ho h65 (fun e => by rw [e] at hf; exact hf)
end
theorem form_all (w0 : World) (r : Rd) (hT : Tabs w0) (hE : Errs w0) (h65 : r.L.length ≤ 65536) (hQ : QuoOk w0 r) (hC : ChrOk w0 r) : ∀ n, FormOk w0 r n (r.L.length + 2 - n)
  | 0 => fun F s w h hp hl => absurd rfl hl
  | n + 1 => fun F s w h hp hl => by
    have ih := form_all w0 r hT hE h65 hQ hC n
    have g1 := skipTo_ge r.L s.pos
    have g2 := skipTo_le (L := r.L) h.pos
    have hfu : r.L.length + 1 ≤ n + skipTo r.L s.pos := by omega
    have ihp : FormOk w0 r n (skipTo r.L s.pos + 1) := ih.mono (by omega)
    have hfi : RdFine r.L (formO r.L n) (skipTo r.L s.pos + 1) := fun s' k1 k2 => formO_fine r.L n s' k2 (by omega)
    have heq : formO r.L (n + 1) s = formAt r.L (formO r.L n) n { s with pos := skipTo r.L s.pos } := rfl
    rw [heq] at hl ⊢
    have hlt : ∀ c : Int, ch r.L (skipTo r.L s.pos) = c → c ≠ -1 → skipTo r.L s.pos + 1 ≤ r.L.length := fun c e h => ch_lt (by rw [e]; exact h)
    by_cases c40 : ch r.L (skipTo r.L s.pos) = 40
    · rw [formAt_40 (s := { s with pos := skipTo r.L s.pos }) c40] at hl ⊢
      exact form_read h _ (by rw [c40]; rfl) (fun args w => enters_of Tryz.func157 (by kernel_rfl) rfl args w) hl fun W hW => list_all hW n (hlt _ c40 (by decide)) ihp hfi (by simp only; omega)
    by_cases c91 : ch r.L (skipTo r.L s.pos) = 91
    · rw [formAt_91 (s := { s with pos := skipTo r.L s.pos }) c91] at hl ⊢
      exact form_read h _ (by rw [c91]; rfl) (fun args w => enters_of Tryz.func158 (by kernel_rfl) rfl args w) hl fun W hW => vector_all hW n (hlt _ c91 (by decide)) ihp hfi (by simp only; omega) h65
    by_cases c39 : ch r.L (skipTo r.L s.pos) = 39
    · rw [formAt_39 (s := { s with pos := skipTo r.L s.pos }) c39] at hl ⊢
      exact form_read h _ (by rw [c39]; rfl) (fun args w => enters_of Tryz.func159 (by kernel_rfl) rfl args w) hl fun W hW => quoted_any hW hl fun W2 hW2 => prefixed_all hW2 n 1 1 2 rfl (by decide) (hlt _ c39 (by decide)) ihp hfi
    by_cases c96 : ch r.L (skipTo r.L s.pos) = 96
    · rw [formAt_96 (s := { s with pos := skipTo r.L s.pos }) c96] at hl ⊢
      exact form_read h _ (by rw [c96]; rfl) (fun args w => enters_of Tryz.func160 (by kernel_rfl) rfl args w) hl fun W hW => backquoted_any hW hl fun W2 hW2 => prefixed_all hW2 n 1 1 4 rfl (by decide) (hlt _ c96 (by decide)) ihp hfi
    by_cases c44 : ch r.L (skipTo r.L s.pos) = 44
    · by_cases c64 : ch r.L (skipTo r.L s.pos + 1) = 64
      · rw [formAt_splice (s := { s with pos := skipTo r.L s.pos }) c44 c64] at hl ⊢
        have hl2 : skipTo r.L s.pos + 2 ≤ r.L.length := by have := ch_lt (L := r.L) (p := skipTo r.L s.pos + 1) (by rw [c64]; decide); omega
        exact form_read h _ (by rw [c44]; rfl) (fun args w => enters_of Tryz.func161 (by kernel_rfl) rfl args w) hl fun W hW => comma_splice hW hl c64 fun W2 hW2 => prefixed_all hW2 n 2 2 6 rfl (by decide) hl2 ihp hfi
      · rw [formAt_44 (s := { s with pos := skipTo r.L s.pos }) c44 c64] at hl ⊢
        exact form_read h _ (by rw [c44]; rfl) (fun args w => enters_of Tryz.func161 (by kernel_rfl) rfl args w) hl fun W hW => comma_plain hW hl c64 fun W2 hW2 => prefixed_all hW2 n 1 1 5 rfl (by decide) (hlt _ c44 (by decide)) ihp hfi
    by_cases c35 : ch r.L (skipTo r.L s.pos) = 35
    · rw [formAt_35 (s := { s with pos := skipTo r.L s.pos }) c35] at hl ⊢
      refine form_read h _ (by rw [c35]; rfl) (fun args w => enters_of Tryz.func162 (by kernel_rfl) rfl args w) hl fun W hW => ?_
      unfold hashO at hl ⊢
      by_cases c39b : ch r.L (skipTo r.L s.pos + 1) = 39
      · simp only [if_pos c39b] at hl ⊢
        have hl2 : skipTo r.L s.pos + 2 ≤ r.L.length := by have := ch_lt (L := r.L) (p := skipTo r.L s.pos + 1) (by rw [c39b]; decide); omega
        exact hash_fun hW hl c39b fun W2 hW2 => prefixed_all hW2 n 2 2 3 rfl (by decide) hl2 ihp hfi
      · simp only [if_neg c39b] at hl ⊢
        by_cases c35b : ch r.L (skipTo r.L s.pos + 1) = 35 ∧ ends (ch r.L (skipTo r.L s.pos + 2)) = true
        · simp only [if_pos c35b]
          exact hash_empty hW hT c35b.1 c35b.2
        · simp only [if_neg c35b]
          exact hash_bad hW c39b c35b
    by_cases c34 : ch r.L (skipTo r.L s.pos) = 34
    · rw [formAt_34 (s := { s with pos := skipTo r.L s.pos }) c34] at hl ⊢
      exact form_read h _ (by rw [c34]; rfl) (fun args w => enters_of Tryz.func163 (by kernel_rfl) rfl args w) hl fun W hW => hQ F _ W n hW c34 (by simp only; omega)
    by_cases c63 : ch r.L (skipTo r.L s.pos) = 63
    · rw [formAt_63 (s := { s with pos := skipTo r.L s.pos }) c63] at hl ⊢
      exact form_read h _ (by rw [c63]; rfl) (fun args w => enters_of Tryz.func164 (by kernel_rfl) rfl args w) hl fun W hW => hC F _ W n hW c63 (by simp only; omega)
    by_cases cst : ch r.L (skipTo r.L s.pos) = 41 ∨ ch r.L (skipTo r.L s.pos) = 93 ∨ ch r.L (skipTo r.L s.pos) = -1
    · rw [formAt_stray (s := { s with pos := skipTo r.L s.pos }) cst] at hl ⊢
      exact form_read h _ (by rcases cst with e | e | e <;> (rw [e]; rfl)) (fun args w => enters_of Tryz.func165 (by kernel_rfl) rfl args w) hl fun W hW => stray_any hW
    have hnone : readerOf (ch r.L (skipTo r.L s.pos)) = none := by
      unfold readerOf
      rw [if_neg c40, if_neg c91, if_neg c39, if_neg c96, if_neg c44, if_neg c35, if_neg c34, if_neg c63, if_neg cst]
    rw [formAt_token (s := { s with pos := skipTo r.L s.pos }) c40 c91 c39 c96 c44 c35 c34 c63 cst] at hl ⊢
    exact form_token h hnone hl fun W hW => token_any hW hT hE n hfu
end Go.Proofs.YtbbopdkbokbafaaGreatDoor
