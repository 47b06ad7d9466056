/- eachWord, handed Collect's closure: it visits the words of an object, one after another. -/
import Derived.Test.YtleppjdmcjocmaaDoorHpReachSpec
import Derived.Test.YtleppjdmcjocmaaDoorHpGet
import Derived.Deep.LoopGhost
namespace Go.Proofs.YtleppjdmcjocmaaDoor
open Go.RowKit Go.Lib
abbrev visitor (bh br bs : Nat) : Value := .func (.func 55) #[] #[.pointer (some ⟨bh, 0, none⟩), .pointer (some ⟨br, 0, none⟩), .pointer (some ⟨bs, 0, none⟩)]
set_option maxHeartbeats 4000000 in
theorem each_pair {W0 w : World} {hb : Nat} {G : Nat → Nat} {m : Hp} {bh br bs : Nat} {s : List Bool × List Nat} (L : Nat) (v : Value) (a d : Wd) (h0 : HeapAt W0 hb G m) (h : Dfs W0 w hb G m bh br bs s) (hov : ObAt W0 G L v (.pair a d)) :
    Calls Tryd.prog 56 #[v, visitor bh br bs] w fun e w' => e = .returned (.tuple #[]) ∧ Dfs W0 w' hb G m bh br bs (m.visits s ([a, d])) := by
  obtain ⟨b, rfl, _, kb⟩ := hov
  have hta_pair := as_pair_pair (.pointer (some ⟨b, 0, none⟩))
  have hta_vector := as_pair_vector (.pointer (some ⟨b, 0, none⟩))
  have hta_code := as_pair_code (.pointer (some ⟨b, 0, none⟩))
  have hb0 := h.below
  have bl := lt_at kb
  have c0 : w.cell? ⟨b, 0, none⟩ = some (.int .i64 a.1) := (hb0.cell (p := ⟨b, 0, none⟩) bl).trans (cell_at kb)
  have c1 : w.cell? ⟨b, 1, none⟩ = some (.int .i64 a.2) := (hb0.cell (p := ⟨b, 1, none⟩) bl).trans (cell_at kb)
  have HH := Lib.hid (And.intro h kb)
  clear h kb hb0
  go_enter Tryd.func56, Tryd.ntmps56
  go_wp2_with fail
  refine (visit_any a h0 HH.out.1).mono ?_
  rintro e W1 ⟨rfl, hd1⟩
  have hb1 := hd1.below
  have d0 : W1.cell? ⟨b, 2, none⟩ = some (.int .i64 d.1) := (hb1.cell (p := ⟨b, 2, none⟩) bl).trans (cell_at HH.out.2)
  have d1 : W1.cell? ⟨b, 3, none⟩ = some (.int .i64 d.2) := (hb1.cell (p := ⟨b, 3, none⟩) bl).trans (cell_at HH.out.2)
  have H1 := Lib.hid hd1
  clear hd1 hb1
  go_wp2_with fail
  refine (visit_any d h0 H1.out).mono ?_
  rintro e W2 ⟨rfl, hd2⟩
  have HD := Lib.hid hd2
  clear hd2
  go_wp2_with fail
  go_loopg [43] 0 (fun gk kv wr => gk = 0 ∧ kv = .int .i64 0 ∧ Dfs W0 wr hb G m bh br bs (m.visit (m.visit s a) d))
  case atStart => exact ⟨rfl, rfl, HD.out⟩
  case round =>
    obtain ⟨_, rfl, hd⟩ := hrel
    have HE := Lib.hid hd
    clear hd
    go_wp2
    go_end0
    exact ⟨rfl, HE.out⟩
set_option maxHeartbeats 4000000 in
theorem each_text {W0 w : World} {hb : Nat} {G : Nat → Nat} {m : Hp} {bh br bs : Nat} {s : List Bool × List Nat} (L : Nat) (v : Value) (t : ByteArray) (n : Nat) (_h0 : HeapAt W0 hb G m) (h : Dfs W0 w hb G m bh br bs s) (hov : ObAt W0 G L v (.text t n)) :
    Calls Tryd.prog 56 #[v, visitor bh br bs] w fun e w' => e = .returned (.tuple #[]) ∧ Dfs W0 w' hb G m bh br bs (m.visits s ([])) := by
  obtain ⟨b, rfl, _, kb⟩ := hov
  have hta_pair := as_text_pair (.pointer (some ⟨b, 0, none⟩))
  have hta_vector := as_text_vector (.pointer (some ⟨b, 0, none⟩))
  have hta_code := as_text_code (.pointer (some ⟨b, 0, none⟩))
  have HD := Lib.hid h
  clear h
  go_enter Tryd.func56, Tryd.ntmps56
  go_wp2_with fail
  go_loopg [43] 0 (fun gk kv wr => gk = 0 ∧ kv = .int .i64 0 ∧ Dfs W0 wr hb G m bh br bs (s))
  case atStart => exact ⟨rfl, rfl, HD.out⟩
  case round =>
    obtain ⟨_, rfl, hd⟩ := hrel
    have HE := Lib.hid hd
    clear hd
    go_wp2
    go_end0
    exact ⟨rfl, HE.out⟩
set_option maxHeartbeats 4000000 in
theorem each_vec {W0 w : World} {hb : Nat} {G : Nat → Nat} {m : Hp} {bh br bs : Nat} {s : List Bool × List Nat} (L : Nat) (v : Value) (l : List Wd) (h0 : HeapAt W0 hb G m) (h : Dfs W0 w hb G m bh br bs s) (hov : ObAt W0 G L v (.vec l)) (hn : l.length ≤ 1048576) :
    Calls Tryd.prog 56 #[v, visitor bh br bs] w fun e w' => e = .returned (.tuple #[]) ∧ Dfs W0 w' hb G m bh br bs (m.visits s (l)) := by
  obtain ⟨b, sv, rfl, _, kb, hr⟩ := hov
  obtain ⟨as', cs', rfl⟩ := hr.slice
  have hta_pair := as_vector_pair (.pointer (some ⟨b, 0, none⟩))
  have hta_vector := as_vector_vector (.pointer (some ⟨b, 0, none⟩))
  have hta_code := as_vector_code (.pointer (some ⟨b, 0, none⟩))
  have hb0 := h.below
  have bl := lt_at kb
  have c0 : w.cell? ⟨b, 0, none⟩ = some (.slice as' l.length cs') := (hb0.cell (p := ⟨b, 0, none⟩) bl).trans (cell_at kb)
  have HD := Lib.hid h
  have HR := Lib.hid hr
  clear h hr kb hb0
  go_enter Tryd.func56, Tryd.ntmps56
  go_wp2_with fail
  go_loopg [43] l.length (fun gk kv wr => ∃ k : Nat, gk = l.length - k ∧ k ≤ l.length ∧ kv = .int .i64 k ∧ Dfs W0 wr hb G m bh br bs (m.visits s (l.take k)))
  case atStart => exact ⟨0, by omega, Nat.zero_le _, rfl, by simpa [Hp.visits] using HD.out⟩
  case round =>
    obtain ⟨k, hgk, hk, rfl, hd⟩ := hrel
    have HE := Lib.hid hd
    have HGK := Lib.hid hgk
    clear hd hgk
    by_cases hlt : k < l.length
    · obtain ⟨a, ha⟩ : ∃ a, l[k]? = some a := ⟨_, List.getElem?_eq_getElem hlt⟩
      obtain ⟨g, cap, cur, hu, _, kg, _⟩ := HR.out.at (Nat.lt_of_le_of_lt (Nat.zero_le _) hlt)
      cases hu
      have hb0 := HE.out.below
      have gl := lt_at kg
      have r0 : wr.cell? ⟨g, k * 2, none⟩ = some (.int .i64 a.1) := (hb0.cell (p := ⟨g, k * 2, none⟩) gl).trans (HR.out.cell (wcells_fst _ _ _ ha))
      have r1 : wr.cell? ⟨g, k * 2 + 1, none⟩ = some (.int .i64 a.2) := (hb0.cell (p := ⟨g, k * 2 + 1, none⟩) gl).trans (HR.out.cell (wcells_snd _ _ _ ha))
      have hcv := fun W (hW : Below wr.heap.size wr W) => visit_any a h0 (HE.out.move hW)
      have CV := Lib.hid hcv
      have HA := Lib.hid ha
      clear hcv ha hb0 kg gl
      go_wp2_with (go_at_call 55; refine (CV.out _ (Below.alloc (Below.refl _ _) (Nat.le_refl _) _)).mono ?_; rintro e W1 ⟨rfl, hd1⟩; have H1 := Lib.hid hd1; clear hd1)
      go_roundg (l.length - (k + 1))
      case measure => have := HGK.out; omega
      case rel => exact ⟨k + 1, rfl, hlt, by go_num, by rw [Hp.visits_take _ _ _ _ _ HA.out]; exact H1.out⟩
    · have hk2 : k = l.length := by omega
      subst hk2
      go_wp2
      go_end0
      exact ⟨rfl, by simpa using HE.out⟩
set_option maxHeartbeats 4000000 in
theorem each_code {W0 w : World} {hb : Nat} {G : Nat → Nat} {m : Hp} {bh br bs : Nat} {s : List Bool × List Nat} (L : Nat) (v : Value) (le mo de : Int) (bb : List UInt8) (l : List Wd) (h0 : HeapAt W0 hb G m) (h : Dfs W0 w hb G m bh br bs s) (hov : ObAt W0 G L v (.code le mo de bb l)) (hn : l.length ≤ 1048576) :
    Calls Tryd.prog 56 #[v, visitor bh br bs] w fun e w' => e = .returned (.tuple #[]) ∧ Dfs W0 w' hb G m bh br bs (m.visits s (l)) := by
  obtain ⟨b, sb, sv, rfl, _, kb, _, hr⟩ := hov
  obtain ⟨as', cs', rfl⟩ := hr.slice
  have hta_pair := as_code_pair (.pointer (some ⟨b, 0, none⟩))
  have hta_vector := as_code_vector (.pointer (some ⟨b, 0, none⟩))
  have hta_code := as_code_code (.pointer (some ⟨b, 0, none⟩))
  have hb0 := h.below
  have bl := lt_at kb
  have c0 : w.cell? ⟨b, 4, none⟩ = some (.slice as' l.length cs') := (hb0.cell (p := ⟨b, 4, none⟩) bl).trans (cell_at kb)
  have HD := Lib.hid h
  have HR := Lib.hid hr
  clear h hr kb hb0
  go_enter Tryd.func56, Tryd.ntmps56
  go_wp2_with fail
  go_loopg [43] l.length (fun gk kv wr => ∃ k : Nat, gk = l.length - k ∧ k ≤ l.length ∧ kv = .int .i64 k ∧ Dfs W0 wr hb G m bh br bs (m.visits s (l.take k)))
  case atStart => exact ⟨0, by omega, Nat.zero_le _, rfl, by simpa [Hp.visits] using HD.out⟩
  case round =>
    obtain ⟨k, hgk, hk, rfl, hd⟩ := hrel
    have HE := Lib.hid hd
    have HGK := Lib.hid hgk
    clear hd hgk
    by_cases hlt : k < l.length
    · obtain ⟨a, ha⟩ : ∃ a, l[k]? = some a := ⟨_, List.getElem?_eq_getElem hlt⟩
      obtain ⟨g, cap, cur, hu, _, kg, _⟩ := HR.out.at (Nat.lt_of_le_of_lt (Nat.zero_le _) hlt)
      cases hu
      have hb0 := HE.out.below
      have gl := lt_at kg
      have r0 : wr.cell? ⟨g, k * 2, none⟩ = some (.int .i64 a.1) := (hb0.cell (p := ⟨g, k * 2, none⟩) gl).trans (HR.out.cell (wcells_fst _ _ _ ha))
      have r1 : wr.cell? ⟨g, k * 2 + 1, none⟩ = some (.int .i64 a.2) := (hb0.cell (p := ⟨g, k * 2 + 1, none⟩) gl).trans (HR.out.cell (wcells_snd _ _ _ ha))
      have hcv := fun W (hW : Below wr.heap.size wr W) => visit_any a h0 (HE.out.move hW)
      have CV := Lib.hid hcv
      have HA := Lib.hid ha
      clear hcv ha hb0 kg gl
      go_wp2_with (go_at_call 55; refine (CV.out _ (Below.alloc (Below.refl _ _) (Nat.le_refl _) _)).mono ?_; rintro e W1 ⟨rfl, hd1⟩; have H1 := Lib.hid hd1; clear hd1)
      go_roundg (l.length - (k + 1))
      case measure => have := HGK.out; omega
      case rel => exact ⟨k + 1, rfl, hlt, by go_num, by rw [Hp.visits_take _ _ _ _ _ HA.out]; exact H1.out⟩
    · have hk2 : k = l.length := by omega
      subst hk2
      go_wp2
      go_end0
      exact ⟨rfl, by simpa using HE.out⟩
theorem size_total : ∀ (l : List (Option Ob)) (i : Nat) (o : Ob), l[i]? = some (some o) → o.size ≤ total l
  | [], i, o, h => by simp at h
  | u :: l, 0, o, h => by
    simp at h
    subst h
    simp [total, osize]
  | u :: l, i + 1, o, h => by
    have := size_total l i o (by simpa using h)
    simp [total] at this ⊢
    omega
theorem words_size (o : Ob) : o.words.length ≤ o.size + 2 := by
  cases o <;> simp [Ob.words, Ob.size] <;> omega
/-- eachWord visits an object's words. -/
theorem each_any {W0 w : World} {hb : Nat} {G : Nat → Nat} {m : Hp} {bh br bs : Nat} {s : List Bool × List Nat} (L : Nat) (v : Value) (o : Ob) (h0 : HeapAt W0 hb G m) (h : Dfs W0 w hb G m bh br bs s) (hov : ObAt W0 G L v o) (hn : o.size ≤ 1048576) :
    Calls Tryd.prog 56 #[v, visitor bh br bs] w fun e w' => e = .returned (.tuple #[]) ∧ Dfs W0 w' hb G m bh br bs (m.visits s o.words) := by
  cases o with
  | pair a d => exact each_pair L v a d h0 h hov
  | text t n => exact each_text L v t n h0 h hov
  | vec l => exact each_vec L v l h0 h hov hn
  | code le mo de bb l => exact each_code L v le mo de bb l h0 h hov (by simp [Ob.size] at hn; omega)
end Go.Proofs.YtleppjdmcjocmaaDoor
