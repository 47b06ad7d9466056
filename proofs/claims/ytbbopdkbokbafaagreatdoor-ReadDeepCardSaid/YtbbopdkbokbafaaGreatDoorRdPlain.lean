/- Read of a valid text without quotes and question marks, as a plain function; a new heap beside a new table. Conditions: unicode/utf8's two tables; strconv.ErrRange holds an error, or nil. -/
import Derived.Test.YtbbopdkbokbafaaGreatDoorRdRead2
import Derived.Test.YtbbopdkbokbafaaGreatDoorRdForm
import Derived.Test.YtbbopdkbokbafaaGreatDoorHpKit
namespace Go.Proofs.YtbbopdkbokbafaaGreatDoor
open Go.RowKit Go.Lib
/-- Read as a plain function. -/
def readO (L : List Int) (h : Hp) (t : Tb) (p : Nat) : Out Wd :=
  if ch L (skipTo L p) = -1 then .bad 13 (skipTo L p) ⟨h, t, skipTo L p, 0⟩ else formO L (L.length + 2) ⟨h, t, skipTo L p, 0⟩
theorem read_of {w0 w : World} {hb tb : Nat} {F : Nat → Nat} {h : Hp} {t : Tb} (H : HT w0 w hb tb F h t) (hT : Tabs w0) (hE : Errs w0) (x : ByteArray) (hx : x.size ≤ 65536) (hv : validD x.data.toList = true) {L : List Int} (hL : runesD x.data.toList = L)
    (hq : ∀ r : Rd, r.L = L → QuoOk w0 r ∧ ChrOk w0 r) (p : Nat) (hp : p ≤ L.length) :
    Calls Tryz.prog 17 #[hptr hb, hptr tb, .string x, .int .i64 p] w fun e w' => ReadDoes w0 w hb tb F (readO L h t p) e w' := by
  unfold readO
  have hlen : L.length ≤ 65536 := by rw [← hL, ← runeCount_eq]; exact Nat.le_trans (runeCount_le x) hx
  by_cases he : ch L (skipTo L p) = -1
  · rw [if_pos he]
    exact read_end H hT x (by omega) hv hL p hp he
  · rw [if_neg he]
    have hsp := skipTo_le (L := L) hp
    refine read_form H hT x (by omega) hv hL p hp he (fun r W F' hr hR => ?_) (fun e => ?_)
    · subst hr
      refine form_all w0 r hT hE hlen (hq r rfl).1 (hq r rfl).2 (r.L.length + 2) F' _ W hR (by simp) (fun e => ?_)
      have hf := formO_fine r.L (r.L.length + 2) ⟨h, t, skipTo r.L p, 0⟩ hsp (by simp only; omega)
      rw [e] at hf
      exact hf
    · have hf := formO_fine L (L.length + 2) ⟨h, t, skipTo L p, 0⟩ hsp (by simp only; omega)
      rw [e] at hf
      exact hf
theorem read_plain {w0 w : World} {hb tb : Nat} {F : Nat → Nat} {h : Hp} {t : Tb} (H : HT w0 w hb tb F h t) (hT : Tabs w0) (hE : Errs w0) (x : ByteArray) (hx : x.size ≤ 65536) (hv : validD x.data.toList = true) {L : List Int} (hL : runesD x.data.toList = L)
    (hq : ∀ c ∈ L, c ≠ 34 ∧ c ≠ 63) (p : Nat) (hp : p ≤ L.length) :
    Calls Tryz.prog 17 #[hptr hb, hptr tb, .string x, .int .i64 p] w fun e w' => ReadDoes w0 w hb tb F (readO L h t p) e w' :=
  read_of H hT hE x hx hv hL (fun _ hr => ⟨QuoOk.none fun c hc => (hq c (hr ▸ hc)).1, ChrOk.none fun c hc => (hq c (hr ▸ hc)).2⟩) p hp
theorem lfresh_any (n : Nat) (w : World) (h1 : 1 ≤ n) (h2 : n ≤ 65536) : Calls Tryz.prog 16 #[.int .i64 n] w fun e w' => ∃ hb tb F, e = .returned (.tuple #[hptr hb, hptr tb]) ∧ Below w.heap.size w w' ∧ HT w w' hb tb F (Hp.empty n) tbN := by
  have cH := new_any n w h1 h2
  clear h1 h2
  go_enter Tryz.func16, Tryz.ntmps16
  go_wp2_with fail
  refine cH.mono ?_
  rintro e W ⟨rfl, hb1, hs1, hh⟩
  have HB := Lib.hid (And.intro hb1 (And.intro hs1 hh))
  clear hb1 hs1 hh
  go_wp2_with fail
  refine (tnew_any _).mono ?_
  rintro e W2 ⟨tb, Gt, rfl, hb2, ht, hlt⟩
  have HT2 := Lib.hid (And.intro hb2 (And.intro ht hlt))
  clear hb2 ht hlt
  go_wp2
  obtain ⟨hb1, hs1, hh⟩ := HB.out
  obtain ⟨hb2, ht, hlt⟩ := HT2.out
  refine bodyPost_ret (v := .tuple #[hptr w.heap.size, hptr tb]) (by simp [results, Tryz.results16, go_sem]) rfl ⟨_, tb, fun k => if k = w.heap.size then 1 else Gt k, rfl, hb1.trans (hb2.mono (by omega)), ⟨hb1.trans (hb2.mono (by omega)), fun k hk => ?_, rfl, by rw [tbN_length]; decide, _, Gt, hh.below hb2, ht, fun k hk => ?_, fun k => ?_⟩⟩
  · rw [if_neg (by omega)]; exact hlt k (by omega)
  · by_cases e : k = w.heap.size
    · subst e; exact hlt _ (by omega)
    · simp [e] at hk
  · by_cases e : k = w.heap.size
    · simp [e]
    · simp [e]
end Go.Proofs.YtbbopdkbokbafaaGreatDoor
