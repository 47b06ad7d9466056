/- The contracts of runes.offset and runes.Cut, for every string of at most 100,000 bytes. Condition: unicode/utf8's two tables hold what the program's text lays. -/
import Derived.Test.YtjajeijeoohpoaaDoorStr
import Derived.Test.YtjajeijeoohpoaaDoorPlain2
namespace Go.Proofs.YtjajeijeoohpoaaDoor
open Go.RowKit Go.Lib Go.Shelf
/-- How many bytes the first n characters from a place on take. -/
def offFrom : Nat → List UInt8 → Nat
  | 0, _ => 0
  | n + 1, l => if l = [] then 0 else (decodeL l).2 + offFrom n (l.drop (decodeL l).2)
theorem offFrom_nil (n : Nat) : offFrom n [] = 0 := by cases n <;> simp [offFrom]
theorem offFrom_at (s : ByteArray) (pos n : Nat) (h : pos < s.size) : offFrom (n + 1) (s.data.toList.drop pos) = (Utf8.decode s pos).2 + offFrom n (s.data.toList.drop (pos + (Utf8.decode s pos).2)) := by
  rw [offFrom, if_neg (drop_ne h), decodeL_drop, List.drop_drop]
/-- In a text of characters they are those characters' bytes. -/
theorem offFrom_enc : ∀ (n : Nat) (l : List Int), l.all isZ = true → offFrom n (encD l) = (encD (l.take n)).length
  | 0, l, _ => by simp [offFrom, encD]
  | n + 1, [], _ => by simp [offFrom, encD]
  | n + 1, c :: l, h => by
    simp only [List.all_cons, Bool.and_eq_true] at h
    rw [encD_cons, offFrom, if_neg (enc_ne c _), decode_enc c h.1, List.take_succ_cons, encD_cons, List.length_append]
    simp only [List.drop_left]
    rw [offFrom_enc n l h.2]
set_option maxHeartbeats 1000000 in
theorem offset_any (s : ByteArray) (n : Nat) (w : World) (hs : s.size ≤ 100000) (hn : n ≤ (runesD s.data.toList).length) :
    Calls Tryd.prog 39 #[.string s, .int .i64 n] w fun e w' => e = .returned (.int .i64 (offFrom n s.data.toList)) ∧ Below w.heap.size w w' := by
  obtain ⟨r, hr⟩ : ∃ r, offFrom n s.data.toList = r := ⟨_, rfl⟩
  rw [hr]
  have HR : Hid _ := Lib.hid hr
  have HN : Hid _ := Lib.hid hn
  have hnb : n ≤ 100000 := by have := runeCount_le s; rw [runeCount_eq] at this; omega
  clear hr hn
  go_enter Tryd.func39, Tryd.ntmps39
  go_wp2
  go_loopw [1] (fun x wr => ∃ (pos k : Nat), x = .int .i64 k ∧ wr = w.iter s pos ∧ k ≤ n ∧ pos ≤ s.size ∧ Hid (pos + offFrom k (s.data.toList.drop pos) = r ∧ k ≤ (runesD (s.data.toList.drop pos)).length)) (fun _ wr => s.size - wr.iterPos w.heap.size)
  case atStart => exact ⟨0, n, rfl, rfl, Nat.le_refl _, Nat.zero_le _, Lib.hid ⟨by simpa using HR.out, by simpa using HN.out⟩⟩
  case round =>
    obtain ⟨pos, k, rfl, rfl, hk, hps, HK⟩ := hrel
    by_cases hp : pos < s.size
    · have hnx : ∀ ty, (Instr.next (.pointer (some ⟨w.heap.size, 0, none⟩)) true ty).run Tryd.prog (w.iter s pos) = _ := fun ty => run_next_any w s pos ty hp
      have hwd := Lib.decode_width_pos s pos hp
      have hle := decode_le s pos
      have hwl : pos + (Utf8.decode s pos).2 ≤ s.size := by
        have h1 := decodeL_le (s.data.toList.drop pos) (drop_ne hp)
        rw [decodeL_drop] at h1
        simp at h1
        omega
      have ho := fun n => offFrom_at s pos n hp
      have hst := runesD_at s pos hp
      have HO : Hid _ := Lib.hid (And.intro ho hst)
      clear ho hst
      generalize Utf8.decode s pos = d at *
      obtain ⟨ch, wd⟩ := d
      simp only at hnx hwd hle hwl HO
      by_cases hk0 : k = 0
      · subst hk0
        have e1 : r = pos := by have := HK.out.1; simpa [offFrom] using this.symm
        subst e1
        clear HR HN HK HO
        go_wp2
        go_ret
        exact ⟨rfl, below_iter (Below.refl _ _) (Nat.le_refl _)⟩
      · obtain ⟨k', rfl⟩ : ∃ k', k = k' + 1 := ⟨k - 1, by omega⟩
        have hkz : (((k' + 1 : Nat) : Int) == 0) = false := by simp; omega
        clear hk0
        go_wp2
        go_roundw
        case rel => exact ⟨pos + wd, k', by go_num, rfl, by omega, by omega, Lib.hid ⟨by have := HK.out.1; rw [HO.out.1] at this; omega, by have := HK.out.2; rw [HO.out.2] at this; simpa using this⟩⟩
        case measure => simp; omega
    · have hnx : ∀ ty, (Instr.next (.pointer (some ⟨w.heap.size, 0, none⟩)) true ty).run Tryd.prog (w.iter s pos) = _ := fun ty => run_next_end w s pos ty hp
      have e1 : r = s.size := by
        have h1 := HK.out.1
        rw [List.drop_of_length_le (by simp; omega), offFrom_nil] at h1
        omega
      subst e1
      clear HR HN HK
      go_wp2
      go_ret
      exact ⟨rfl, below_iter (Below.refl _ _) (Nat.le_refl _)⟩
/-- What Cut gives. -/
def cutS (l : List UInt8) (a b : Int) : ByteArray := if validD l = true ∧ 0 ≤ a ∧ a ≤ b ∧ b ≤ (runesD l).length then ⟨(encD (((runesD l).drop a.toNat).take (b - a).toNat)).toArray⟩ else ⟨#[]⟩
def cutE (l : List UInt8) (a b : Int) : Int := if validD l = true then (if 0 ≤ a ∧ a ≤ b ∧ b ≤ (runesD l).length then 0 else 3) else 5
set_option maxHeartbeats 400000 in
theorem clone_any (s : ByteArray) (w : World) (hs : s.size ≤ 100000) : Calls Tryd.prog 40 #[.string s] w fun e w' => e = .returned (.string s) ∧ Below w.heap.size w w' := by
  have cC := Tryd.stringslite_Clone s w (by omega)
  go_enter Tryd.func40, Tryd.ntmps40
  go_wp2_with (go_at_call 49; refine cC.mono ?_; rintro e w' ⟨rfl, hb⟩)
  go_ret
  exact ⟨rfl, hb⟩
set_option maxHeartbeats 400000 in
theorem cut_not (s : ByteArray) (a b : Int) (w : World) (hs : s.size ≤ 100000) (hT : Tabs w) (hv : validD s.data.toList = false) :
    Calls Tryd.prog 11 #[.string s, .int .i64 a, .int .i64 b] w fun e w' => e = .returned (.tuple #[.string ⟨#[]⟩, .int .i64 5]) ∧ Below w.heap.size w w' := by
  have cV := valid_any s w (by omega) hT
  rw [hv] at cV
  clear hv
  go_enter Tryd.func11, Tryd.ntmps11
  go_wp2_with (go_at_call 20; ((with_reducible refine cV.mono ?_); rintro e w' ⟨rfl, hb⟩))
  go_ret2
  exact ⟨rfl, hb⟩
set_option maxHeartbeats 400000 in
theorem cut_out (s : ByteArray) (a b : Int) (N : Nat) (w : World) (hs : s.size ≤ 100000) (hT : Tabs w) (hv : validD s.data.toList = true) (hN : (runesD s.data.toList).length = N) (h : a < 0 ∨ b < a ∨ (N : Int) < b) :
    Calls Tryd.prog 11 #[.string s, .int .i64 a, .int .i64 b] w fun e w' => e = .returned (.tuple #[.string ⟨#[]⟩, .int .i64 3]) ∧ Below w.heap.size w w' := by
  have cV := valid_any s w (by omega) hT
  have cR := fun w => Tryd.utf8_RuneCountInString s w (by omega)
  rw [hv] at cV
  rw [runeCount_eq, hN] at cR
  clear hv hN
  by_cases h1 : a < 0
  · clear h
    go_enter Tryd.func11, Tryd.ntmps11
    go_wp2_with (first | (go_at_call 20; ((with_reducible refine cV.mono ?_); rintro e w' ⟨rfl, hb⟩)) | (go_at_call 38; ((with_reducible refine (cR _).mono ?_); rintro e w' ⟨rfl, pos, rfl⟩)))
    go_ret2
    exact ⟨rfl, hb⟩
  · by_cases h2 : b < a
    · clear h
      go_enter Tryd.func11, Tryd.ntmps11
      go_wp2_with (first | (go_at_call 20; ((with_reducible refine cV.mono ?_); rintro e w' ⟨rfl, hb⟩)) | (go_at_call 38; ((with_reducible refine (cR _).mono ?_); rintro e w' ⟨rfl, pos, rfl⟩)))
      go_ret2
      exact ⟨rfl, hb⟩
    · have h3 : (N : Int) < b := by omega
      clear h
      go_enter Tryd.func11, Tryd.ntmps11
      go_wp2_with (first | (go_at_call 20; ((with_reducible refine cV.mono ?_); rintro e w' ⟨rfl, hb⟩)) | (go_at_call 38; ((with_reducible refine (cR _).mono ?_); rintro e w' ⟨rfl, pos, rfl⟩)))
      go_ret2
      exact ⟨rfl, below_iter hb hb.size⟩
set_option maxHeartbeats 1000000 in
theorem cut_core (s rest part : ByteArray) (a b k j N : Nat) (w : World)
    (cV : Calls Tryd.prog 20 #[.string s] w fun e w' => e = .returned (.bool true) ∧ Below w.heap.size w w')
    (cR : ∀ w, Calls Tryd.prog 38 #[.string s] w fun e w' => e = .returned (.int .i64 N) ∧ ∃ pos, w' = w.iter s pos)
    (c1 : ∀ W, Calls Tryd.prog 39 #[.string s, .int .i64 a] W fun e w' => e = .returned (.int .i64 k) ∧ Below W.heap.size W w')
    (c2 : ∀ W, Calls Tryd.prog 39 #[.string rest, .int .i64 ((b : Int) - (a : Int))] W fun e w' => e = .returned (.int .i64 j) ∧ Below W.heap.size W w')
    (c3 : ∀ W, Calls Tryd.prog 40 #[.string part] W fun e w' => e = .returned (.string part) ∧ Below W.heap.size W w')
    (hab : a ≤ b) (hbN : b ≤ N) (hN : N ≤ 100000) (hk : (k : Int) ≤ (s.size : Int)) (hj : (j : Int) ≤ (rest.size : Int)) (hr : s.extract k s.size = rest) (hp : rest.extract 0 j = part) :
    Calls Tryd.prog 11 #[.string s, .int .i64 a, .int .i64 b] w fun e w' => e = .returned (.tuple #[.string part, .int .i64 0]) ∧ Below w.heap.size w w' := by
  have k1 : ∀ W, Below w.heap.size w W → Calls Tryd.prog 39 #[.string s, .int .i64 a] W fun e w' => e = .returned (.int .i64 k) ∧ Below w.heap.size w w' := fun W hb => (c1 W).mono fun e w' h => ⟨h.1, hb.trans (h.2.mono hb.size)⟩
  have k2 : ∀ W, Below w.heap.size w W → Calls Tryd.prog 39 #[.string rest, .int .i64 ((b : Int) - (a : Int))] W fun e w' => e = .returned (.int .i64 j) ∧ Below w.heap.size w w' := fun W hb => (c2 W).mono fun e w' h => ⟨h.1, hb.trans (h.2.mono hb.size)⟩
  have k3 : ∀ W, Below w.heap.size w W → Calls Tryd.prog 40 #[.string part] W fun e w' => e = .returned (.string part) ∧ Below w.heap.size w w' := fun W hb => (c3 W).mono fun e w' h => ⟨h.1, hb.trans (h.2.mono hb.size)⟩
  have hz1 : ¬ (a : Int) < 0 := by omega
  have hz2 : ¬ (b : Int) < (a : Int) := by omega
  have hz3 : ¬ (N : Int) < (b : Int) := by omega
  clear c1 c2 c3
  go_enter Tryd.func11, Tryd.ntmps11
  go_wp2_with (first | (go_at_call 20; ((with_reducible refine cV.mono ?_); rintro e w' ⟨rfl, hb0⟩)) | (go_at_call 38; ((with_reducible refine (cR _).mono ?_); rintro e w' ⟨rfl, pos, rfl⟩; have hb := below_iter (s := s) (pos := pos) hb0 hb0.size)) | (go_at_call 39; first | ((with_reducible refine (k1 _ hb).mono ?_); rintro e W3 ⟨rfl, hb⟩) | ((with_reducible refine (k2 _ hb).mono ?_); rintro e W3 ⟨rfl, hb⟩)) | (go_at_call 40; ((with_reducible refine (k3 _ hb).mono ?_); rintro e W3 ⟨rfl, hb⟩)))
  go_ret2
  exact ⟨rfl, hb⟩
theorem ba_of (s : ByteArray) (l : List UInt8) (h : s.data.toList = l) : s = ⟨l.toArray⟩ := by
  cases s with
  | mk d => subst h; simp
theorem encD_take_drop (l : List Int) (a : Nat) : (encD l).drop (encD (l.take a)).length = encD (l.drop a) := by
  conv => lhs; rw [← List.take_append_drop a l, encD_append]
  simp [List.take_append_drop]
theorem encD_take_take (l : List Int) (a : Nat) : (encD l).take (encD (l.take a)).length = encD (l.take a) := by
  conv => lhs; rw [← List.take_append_drop a l, encD_append]
  simp [List.take_append_drop]
theorem all_drop (l : List Int) (a : Nat) (h : l.all isZ = true) : (l.drop a).all isZ = true := by
  rw [List.all_eq_true] at h ⊢
  exact fun x hx => h x (List.mem_of_mem_drop hx)
theorem all_takes (l : List Int) (a : Nat) (h : l.all isZ = true) : (l.take a).all isZ = true := by
  rw [List.all_eq_true] at h ⊢
  exact fun x hx => h x (List.mem_of_mem_take hx)
theorem cut_in (s : ByteArray) (a b : Nat) (w : World) (hs : s.size ≤ 100000) (hT : Tabs w) (hv : validD s.data.toList = true) (hab : a ≤ b) (hb : b ≤ (runesD s.data.toList).length) :
    Calls Tryd.prog 11 #[.string s, .int .i64 a, .int .i64 b] w fun e w' => e = .returned (.tuple #[.string ⟨(encD (((runesD s.data.toList).drop a).take (b - a))).toArray⟩, .int .i64 0]) ∧ Below w.heap.size w w' := by
  obtain ⟨l, hl⟩ : ∃ l, runesD s.data.toList = l := ⟨_, rfl⟩
  have hz : l.all isZ = true := by rw [← hl]; exact runes_isZ _
  have hd : s.data.toList = encD l := by rw [← hl]; exact (encD_runes _ hv).symm
  have hlen : l.length ≤ s.size := by rw [← hl, ← runeCount_eq]; exact runeCount_le s
  obtain ⟨k, hk⟩ : ∃ k, (encD (l.take a)).length = k := ⟨_, rfl⟩
  obtain ⟨rest, hr⟩ : ∃ rest, s.extract k s.size = rest := ⟨_, rfl⟩
  have hrd : rest.data.toList = encD (l.drop a) := by rw [← hr, Lib.ext_list, hd, ← hk]; exact encD_take_drop l a
  have hrs : rest.size ≤ s.size := by rw [← hr, Lib.ext_size]; omega
  have hks : k ≤ s.size := by
    have h1 := congrArg List.length hd
    rw [← List.take_append_drop a l, encD_append, List.length_append, hk] at h1
    simp at h1
    omega
  obtain ⟨j, hj⟩ : ∃ j, (encD ((l.drop a).take (b - a))).length = j := ⟨_, rfl⟩
  obtain ⟨part, hp⟩ : ∃ part, rest.extract 0 j = part := ⟨_, rfl⟩
  have hjs : j ≤ rest.size := by
    have h1 := congrArg List.length hrd
    rw [← List.take_append_drop (b - a) (l.drop a), encD_append, List.length_append, hj] at h1
    simp at h1
    omega
  have hpd : part.data.toList = encD ((l.drop a).take (b - a)) := by
    rw [← hp, Lib.extract_data, hrd, ← hj]
    simpa using encD_take_take (l.drop a) (b - a)
  have hps : part.size ≤ 100000 := by
    have h1 := congrArg List.length hpd
    rw [hj] at h1
    simp at h1
    omega
  rw [hl] at hb
  have cV := valid_any s w (by omega) hT
  rw [hv] at cV
  have cR := fun w => Tryd.utf8_RuneCountInString s w (by omega)
  rw [runeCount_eq, hl] at cR
  have hrr : runesD rest.data.toList = l.drop a := by rw [hrd]; exact runes_encD' _ (all_drop l a hz)
  have o1 : offFrom a s.data.toList = k := by rw [hd, offFrom_enc a l hz, hk]
  have o2 : offFrom (b - a) rest.data.toList = j := by rw [hrd, offFrom_enc (b - a) _ (all_drop l a hz), hj]
  have c1 := fun W => offset_any s a W hs (by rw [hl]; omega)
  have c2 := fun W => offset_any rest (b - a) W (by omega) (by rw [hrr]; simp; omega)
  rw [o1] at c1
  rw [o2, Int.ofNat_sub hab] at c2
  rw [hl, ← ba_of part _ hpd]
  exact cut_core s rest part a b k j l.length w cV cR c1 c2 (fun W => clone_any part W hps) hab hb (by omega) (by omega) (by omega) hr hp
theorem cut_any (s : ByteArray) (a b : Int) (w : World) (hs : s.size ≤ 100000) (hT : Tabs w) :
    Calls Tryd.prog 11 #[.string s, .int .i64 a, .int .i64 b] w fun e w' => e = .returned (.tuple #[.string (cutS s.data.toList a b), .int .i64 (cutE s.data.toList a b)]) ∧ Below w.heap.size w w' := by
  unfold cutS cutE
  cases hv : validD s.data.toList
  · rw [if_neg (by simp), if_neg (by simp)]
    exact cut_not s a b w hs hT hv
  · by_cases h : 0 ≤ a ∧ a ≤ b ∧ b ≤ ((runesD s.data.toList).length : Int)
    · rw [if_pos ⟨rfl, h⟩, if_pos rfl, if_pos h]
      obtain ⟨a', rfl⟩ : ∃ n : Nat, a = n := ⟨a.toNat, by omega⟩
      obtain ⟨b', rfl⟩ : ∃ n : Nat, b = n := ⟨b.toNat, by omega⟩
      have := cut_in s a' b' w hs hT hv (by omega) (by omega)
      rwa [show ((b' : Int) - (a' : Int)).toNat = b' - a' by omega]
    · rw [if_neg (fun q => h q.2), if_pos rfl, if_neg h]
      exact cut_out s a b _ w hs hT hv rfl (by omega)
end Go.Proofs.YtjajeijeoohpoaaDoor
