/- The walk of the law NamesFull. Condition: unicode/utf8's two tables hold what the program's text lays. -/
import Derived.Test.YtponbhhkccpbfaaDoorNmLives
import Derived.Test.YtponbhhkccpbfaaDoorNmPlain2
namespace Go.Proofs.YtponbhhkccpbfaaDoor
open Go.RowKit Go.Lib Go.Shelf
theorem lenD_le (s : ByteArray) : lenD s.data.toList ≤ s.size := by
  unfold lenD
  split
  · rw [← runeCount_eq]; exact runeCount_le s
  · omega
theorem ck_small (s : ByteArray) (hv : validD s.data.toList = true) (hs : s.size ≤ 1000) : ckD s = 0 := by
  unfold ckD
  rw [if_pos hv, if_neg (by have := lenD_le s; omega)]
abbrev bang (s : ByteArray) : ByteArray := s ++ ⟨#[33]⟩
theorem bang_data (s : ByteArray) : (bang s).data.toList = s.data.toList ++ [33] := by simp [bang]
theorem bang_size (s : ByteArray) : (bang s).size = s.size + 1 := by
  have : (s ++ (⟨#[33]⟩ : ByteArray)).size = s.size + (⟨#[33]⟩ : ByteArray).size := by simp
  exact this
theorem bang_valid (s : ByteArray) (hv : validD s.data.toList = true) : validD (bang s).data.toList = true := by
  rw [bang_data, valid_append _ _ hv]
  decide +kernel
theorem fixed_last (y : ByteArray) (h : y ∈ fixedN) : y.data.toList.getLast? ≠ some 33 := by
  have : (fixedN.all fun s => s.data.toList.getLast? != some 33) = true := by decide +kernel
  simpa using List.all_eq_true.1 this y h
theorem tbN_bang (s : ByteArray) : tbN.find (bang s) = none := by
  rw [tbN_find, List.findIdx?_eq_none_iff]
  intro y hy
  obtain ⟨s', hs', rfl⟩ := List.mem_map.1 hy
  have h := fixed_last s' hs'
  simp only [Bool.true_and, decide_eq_false_iff_not]
  intro e
  rw [e, bang_data] at h
  simp at h
/-- What interning a name in a new table comes to. -/
theorem intern_new (s : ByteArray) (hck : ckD s = 0) : ∃ (x : Nat) (m1 : Tb), tbN.intern s = ((x : Int), 0, m1) ∧ m1.find s = some x ∧ 62 ≤ m1.syms.length ∧ m1.syms.length ≤ 63 ∧ m1.find (bang s) = none := by
  have hn : ¬ (ckD s ≠ 0) := by rw [hck]; decide
  cases hf : tbN.find s with
  | some i => exact ⟨i, tbN, by unfold Tb.intern; rw [if_neg hn, hf], hf, by rw [tbN_length]; decide, by rw [tbN_length]; decide, tbN_bang s⟩
  | none =>
    refine ⟨62, tbN.add (fy s true), ?_, ?_, ?_, ?_, ?_⟩
    · unfold Tb.intern
      rw [if_neg hn, hf]
      simp only [tbN_length]
      rfl
    · rw [Tb.find_add, hf]; simp [tbN_length]
    · simp [Tb.add, tbN_length]
    · simp [Tb.add, tbN_length]
    · rw [Tb.find_add, tbN_bang]
      simp only
      rw [if_neg]
      rintro ⟨_, e⟩
      have := congrArg List.length e
      rw [bang_data] at this
      simp at this
abbrev xS : ByteArray := ⟨#[120]⟩
theorem ck_x : ckD xS = 0 := by decide +kernel
theorem fresh_x (m : Tb) (hl : m.syms.length < 16384) : m.fresh xS = ((m.syms.length : Int), 0, m.add (fy xS false)) := by
  unfold Tb.fresh
  rw [if_neg (by rw [ck_x]; decide), if_neg (by omega)]
theorem find_x (m : Tb) (s : ByteArray) : (m.add (fy xS false)).find s = m.find s := by
  rw [Tb.find_add]
  cases m.find s with
  | some i => rfl
  | none => simp
theorem fresh_fullT (m : Tb) (s : ByteArray) (hck : ckD s = 0) (hl : m.syms.length = 16384) : m.fresh s = (0, 7, m) := by
  unfold Tb.fresh
  rw [if_neg (by rw [hck]; decide), if_pos hl]
theorem intern_found (m : Tb) (s : ByteArray) (x : Nat) (hck : ckD s = 0) (hf : m.find s = some x) : m.intern s = ((x : Int), 0, m) := by
  unfold Tb.intern
  rw [if_neg (by rw [hck]; decide), hf]
theorem intern_fullT (m : Tb) (s : ByteArray) (hck : ckD s = 0) (hf : m.find s = none) (hl : m.syms.length = 16384) : m.intern s = (0, 7, m) := by
  unfold Tb.intern
  rw [if_neg (by rw [hck]; decide), hf]
  simp only [if_pos hl]
set_option maxHeartbeats 60000000 in
set_option maxRecDepth 100000 in
theorem full_ok (s : ByteArray) (w : World) (hs : s.size ≤ 300) (hv : validD s.data.toList = true) (hT : Tabs w) : Calls Tryd.prog 8 #[.string s] w fun e w' => e = .returned (.bool true) ∧ Below w.heap.size w w' := by
  have hsz : decide ((300 : Int) < s.size) = false := by simp; omega
  have hck := ck_small s hv (by omega)
  have hckb := ck_small (bang s) (bang_valid s hv) (by rw [bang_size]; omega)
  obtain ⟨x, m1, e1, hx, hl1, hl2, hbg⟩ := intern_new s hck
  have HT := Lib.hid hT
  have HS := Lib.hid (And.intro hs (And.intro hck (And.intro hckb (And.intro e1 (And.intro hx (And.intro hl1 (And.intro hl2 hbg)))))))
  have cR := fun W => refValid_any s W (by omega)
  rw [hv] at cR
  have CR := Lib.hid cR
  clear hT hs hck hckb e1 hx hl1 hl2 hbg hv cR
  go_enter Tryd.func8, Tryd.ntmps8
  go_wp2_with fail
  refine (lives_any _ HT.out).mono ?_
  rintro e W0 ⟨rfl, hb0⟩
  have H0 := Lib.hid hb0
  clear hb0
  go_wp2_with fail
  refine (CR.out _).mono ?_
  rintro e Wr ⟨rfl, hbr⟩
  have HR := Lib.hid (H0.out.trans (hbr.mono H0.out.size))
  clear hbr H0 CR
  go_wp2_with fail
  refine (new_any _).mono ?_
  rintro e W1 ⟨tb, G1, rfl, hb1, h1, hlow1⟩
  have H1 := Lib.hid (TInv.of_new HR.out hb1 h1 hlow1)
  clear hb1 h1 hlow1 HR
  go_wp2_with fail
  have c2 := intern_any H1.out.table (by rw [tbN_length]; decide) s (by have := HS.out.1; omega) (HT.out.below H1.out.below HT.out.size)
  rw [HS.out.2.2.2.1] at c2
  refine c2.mono ?_
  rintro e W2 ⟨rfl, hw2⟩
  obtain ⟨G2, h2, _⟩ := H1.out.went hw2
  have H2 := Lib.hid h2
  clear hw2 h2 c2 H1
  go_wp2_with fail
  refine (H2.out.table.many (by have := HS.out.2.2.2.2.2.1; omega)).mono ?_
  rintro e W3 ⟨rfl, rfl⟩
  go_wp2_with fail
  go_loopg [6] (16384 - m1.syms.length) (fun gk nv wr => ∃ (k : Nat) (m : Tb) (G : Nat → Nat), gk = 16384 - k ∧ nv = .int .i64 k ∧ 62 ≤ k ∧ k ≤ 16384 ∧ Hid (TInv w wr tb G m ∧ m.syms.length = k ∧ ∀ s', m.find s' = m1.find s'))
  case atStart =>
    obtain ⟨hs, hck, hckb, e1, hx, hl1, hl2, hbg⟩ := HS.out
    exact ⟨_, m1, G2, rfl, rfl, hl1, by omega, Lib.hid ⟨H2.out, rfl, fun _ => rfl⟩⟩
  case round =>
    obtain ⟨k, m, G, hgk, rfl, hk62, hk, HM⟩ := hrel
    have HGK := Lib.hid (And.intro hgk hk62)
    clear hgk hk62
    by_cases hlt : (k : Int) < 16384
    · have hk2 : k < 16384 := by omega
      have hml := HM.out.2.1
      have cF := fresh_any HM.out.1.table (by have := HGK.out.2; omega) xS (by decide) (HT.out.below HM.out.1.below HT.out.size)
      rw [fresh_x m (by omega), hml] at cF
      have CF := Lib.hid cF
      have hne : ((k : Int) != (k : Int)) = false := by simp
      clear cF hml
      go_wp2_with fail
      refine CF.out.mono ?_
      rintro e W4 ⟨rfl, hw4⟩
      obtain ⟨G4, h4, _⟩ := HM.out.1.went hw4
      have H4 := Lib.hid (show TInv w W4 tb G4 (m.add (fy xS false)) ∧ (m.add (fy xS false)).syms.length = k + 1 ∧ ∀ s', (m.add (fy xS false)).find s' = m1.find s' from ⟨h4, by simp [Tb.add, HM.out.2.1], fun s' => by rw [find_x]; exact HM.out.2.2 s'⟩)
      clear hw4 h4 CF
      go_wp2_with fail
      go_roundg (16384 - (k + 1))
      case measure => have := HGK.out.1; omega
      case rel => exact ⟨k + 1, _, G4, rfl, by go_num, by have := HGK.out.2; omega, hk2, H4⟩
    · have hk2 : k = 16384 := by omega
      subst hk2
      clear hk hlt
      have hml := HM.out.2.1
      have cF := fresh_any HM.out.1.table (by omega) s (by have := HS.out.1; omega) (HT.out.below HM.out.1.below HT.out.size)
      rw [fresh_fullT m s HS.out.2.1 hml] at cF
      have CF := Lib.hid cF
      clear cF hml
      go_wp2_with fail
      refine CF.out.mono ?_
      rintro e W4 ⟨rfl, hw4⟩
      obtain ⟨G4, h4, _⟩ := HM.out.1.went hw4
      have H4 := Lib.hid h4
      clear hw4 h4 CF
      go_wp2_with fail
      have c5 := intern_any H4.out.table (by have := HM.out.2.1; omega) s (by have := HS.out.1; omega) (HT.out.below H4.out.below HT.out.size)
      rw [intern_found m s x HS.out.2.1 ((HM.out.2.2 s).trans HS.out.2.2.2.2.1)] at c5
      refine c5.mono ?_
      rintro e W5 ⟨rfl, hw5⟩
      obtain ⟨G5, h5, _⟩ := H4.out.went hw5
      have H5 := Lib.hid h5
      clear hw5 h5 c5 H4
      have hsI : s.size ≤ 300 := HS.out.1
      go_wp2_with fail
      have c6 := intern_any H5.out.table (by have := HM.out.2.1; omega) (bang s) (by have := HS.out.1; rw [bang_size]; omega) (HT.out.below H5.out.below HT.out.size)
      rw [intern_fullT m (bang s) HS.out.2.2.1 ((HM.out.2.2 _).trans HS.out.2.2.2.2.2.2.2) HM.out.2.1] at c6
      refine c6.mono ?_
      rintro e W6 ⟨rfl, hw6⟩
      obtain ⟨G6, h6, _⟩ := H5.out.went hw6
      have h6 : TInv w W6 tb G6 m := h6
      have hmany := h6.table.many (by have := HM.out.2.1; omega)
      rw [HM.out.2.1] at hmany
      have H6 := Lib.hid (And.intro h6 hmany)
      clear hw6 h6 c6 H5 hmany
      go_wp2_with fail
      refine H6.out.2.mono ?_
      rintro e W7 ⟨rfl, rfl⟩
      go_wp2
      go_ret
      exact ⟨rfl, H6.out.1.below⟩
set_option maxHeartbeats 1000000 in
theorem full_any (s : ByteArray) (w : World) (hT : Tabs w) : Calls Tryd.prog 8 #[.string s] w fun e w' => e = .returned (.bool true) ∧ Below w.heap.size w w' := by
  have cL := lives_any w hT
  by_cases h1 : s.size ≤ 300
  · cases hv : validD s.data.toList
    · have hsz : decide ((300 : Int) < s.size) = false := by simp; omega
      have cR := fun W => refValid_any s W (by omega)
      rw [hv] at cR
      have CR := Lib.hid cR
      have CL := Lib.hid cL
      clear cL cR hv hT h1
      go_enter Tryd.func8, Tryd.ntmps8
      go_wp2_with fail
      refine CL.out.mono ?_
      rintro e W0 ⟨rfl, hb0⟩
      have H0 := Lib.hid hb0
      clear hb0 CL
      go_wp2_with fail
      refine (CR.out _).mono ?_
      rintro e Wr ⟨rfl, hbr⟩
      have HR := Lib.hid (H0.out.trans (hbr.mono H0.out.size))
      clear hbr H0 CR
      go_wp2
      go_ret
      exact ⟨rfl, HR.out⟩
    · exact full_ok s w h1 hv hT
  · have hsz : decide ((300 : Int) < s.size) = true := by simp; omega
    have CL := Lib.hid cL
    clear cL hT h1
    go_enter Tryd.func8, Tryd.ntmps8
    go_wp2_with fail
    refine CL.out.mono ?_
    rintro e W0 ⟨rfl, hb0⟩
    have H0 := Lib.hid hb0
    clear hb0 CL
    go_wp2
    go_ret
    exact ⟨rfl, H0.out⟩
end Go.Proofs.YtponbhhkccpbfaaDoor
