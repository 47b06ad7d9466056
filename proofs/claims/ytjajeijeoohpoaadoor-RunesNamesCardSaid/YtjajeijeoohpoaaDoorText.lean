/- The contract of runes.Text, for every slice of at most 65,536 ints. Conditions: none but that the slice's cells hold the ints. -/
import Derived.Test.YtjajeijeoohpoaaDoorBuild
import Derived.Test.YtjajeijeoohpoaaDoorShelf
import Derived.Test.YtjajeijeoohpoaaDoorChars2
import Derived.LoopTactic
namespace Go.Proofs.YtjajeijeoohpoaaDoor
open Go.RowKit Go.Lib Go.Shelf
/-- A value that is a slice of these ints: its cells hold them. -/
def Sl (v : Value) (l : List Int) (w : World) : Prop :=
  ∃ a cap, v = .slice a l.length cap ∧ ∀ i x, l[i]? = some x → ∃ b off, a = some ⟨b, off, none⟩ ∧ b < w.heap.size ∧ w.cell? ⟨b, off + i, none⟩ = some (.int .i64 x)
theorem Sl.below {B : Nat} {v : Value} {l : List Int} {w w' : World} (h : Sl v l w) (hb : Below B w w') (hB : w.heap.size ≤ B) : Sl v l w' := by
  obtain ⟨a, cap, hv, hc⟩ := h
  refine ⟨a, cap, hv, fun i x hx => ?_⟩
  obtain ⟨b, off, ha, hlt, hcell⟩ := hc i x hx
  have := hb.size
  exact ⟨b, off, ha, by omega, by rw [hb.cell (by simp; omega)]; exact hcell⟩
/-- The bytes of a list of characters. -/
def encD (l : List Int) : List UInt8 := l.flatMap encodeRune
def textS (l : List Int) : ByteArray := if l.all isZ = true then ⟨(encD l).toArray⟩ else ⟨#[]⟩
def textE (l : List Int) : Int := if l.all isZ = true then 0 else 3
theorem isZ_bd {c : Int} (h : isZ c = true) : 0 ≤ c ∧ c ≤ 1114111 := by
  unfold isZ at h; simp at h; omega
theorem encD_snoc (l : List Int) (c : Int) : encD (l ++ [c]) = encD l ++ encodeRune c := by simp [encD]
theorem take_snoc_int (l : List Int) (k : Nat) (x : Int) (h : l[k]? = some x) : l.take (k + 1) = l.take k ++ [x] := by
  obtain ⟨hk, hx⟩ := List.getElem?_eq_some_iff.1 h
  rw [List.take_succ_eq_append_getElem hk, hx]
theorem encD_len (l : List Int) : (encD l).length ≤ 4 * l.length := by
  induction l with
  | nil => simp [encD]
  | cons x l ih =>
    have := (encodeRuneZ_length x).2
    simp only [encD, List.flatMap_cons, List.length_append, encodeRune, List.length_map, List.length_cons] at ih ⊢
    omega
set_option maxHeartbeats 1000000 in
theorem text_core (a : Option Addr) (cap n : Nat) (l : List Int) (w : World) (hn : l.length = n) (hn2 : n ≤ 65536)
    (hc : ∀ i x, l[i]? = some x → ∃ b off, a = some ⟨b, off, none⟩ ∧ b < w.heap.size ∧ w.cell? ⟨b, off + i, none⟩ = some (.int .i64 x)) :
    Calls Tryd.prog 12 #[.slice a n cap] w fun e w' => e = .returned (.tuple #[.string (textS l), .int .i64 (textE l)]) ∧ Below w.heap.size w w' := by
  obtain ⟨rs, hrs⟩ : ∃ rs, textS l = rs := ⟨_, rfl⟩
  obtain ⟨re, hre⟩ : ∃ re, textE l = re := ⟨_, rfl⟩
  rw [hrs, hre]
  have HR : Hid _ := Lib.hid (And.intro hrs hre)
  have HC : Hid _ := Lib.hid hc
  have HN : Hid _ := Lib.hid hn
  clear hrs hre hc hn
  go_enter Tryd.func12, Tryd.ntmps12
  go_wp2
  go_loopw [12] (fun i wr => ∃ k : Nat, i = .int .i64 k ∧ k ≤ n ∧ Lib.IsBuilderF 48 5 w.heap.size w.heap.size (byteCells (encD (l.take k))) wr ∧ Below w.heap.size w wr ∧ Hid ((l.take k).all isZ = true)) (fun i _ => n - (intOf i).toNat)
  case atStart => exact ⟨0, rfl, Nat.zero_le _, IsBuilderF.of (fresh_isBuilder 48 5 w), (Below.refl _ _).alloc (Nat.le_refl _) _, Lib.hid rfl⟩
  case round =>
    obtain ⟨k, rfl, hk, hI, hbw, HA⟩ := hrel
    by_cases hlt : (k : Int) < (n : Int)
    · obtain ⟨x, hx⟩ : ∃ x, l[k]? = some x := ⟨l[k]'(by have := HN.out; omega), List.getElem?_eq_getElem _⟩
      obtain ⟨b, off, ha, hbl, hcell⟩ := HC.out k x hx
      have hcell2 : wr.cell? ⟨b, off + k, none⟩ = some (.int .i64 x) := by rw [hbw.cell (by simpa using hbl)]; exact hcell
      have hsn := take_snoc_int l k x hx
      have hlen := encD_len (l.take k)
      have hkl : (l.take k).length ≤ k := by simp; omega
      have cI := fun w => is_any x w
      subst ha
      have HX : Hid _ := Lib.hid hx
      have HS : Hid _ := Lib.hid hsn
      clear hcell hx hsn
      cases hz : isZ x
      · rw [hz] at cI
        have hnot : l.all isZ = false := by
          rw [List.all_eq_false]
          exact ⟨x, List.mem_of_getElem? HX.out, by simp [hz]⟩
        have e1 : rs = ⟨#[]⟩ := by rw [← HR.out.1]; simp [textS, hnot]
        have e2 : re = 3 := by rw [← HR.out.2]; simp [textE, hnot]
        subst e1
        subst e2
        clear hz hnot HR HA HX HS hI hlen hkl
        go_wp2_with (go_at_call 21; ((with_reducible refine (cI _).mono ?_); rintro e w' ⟨rfl, rfl⟩))
        go_ret2
        exact ⟨rfl, hbw⟩
      · rw [hz] at cI
        have hbd := isZ_bd hz
        have HZ : Hid _ := Lib.hid hz
        have cW := writeRune_any w.heap.size w.heap.size (byteCells (encD (l.take k))) x (by omega) (by omega) wr hI (by rw [byteCells_length]; omega) hbw.size
        obtain ⟨x0, x1⟩ := hbd
        clear hz hI hlen hkl
        obtain ⟨bs, hbs⟩ : ∃ bs, byteCells (encD (l.take k)) = bs := ⟨_, rfl⟩
        rw [hbs] at cW
        have HB : Hid _ := Lib.hid hbs
        clear hbs
        go_wp2_with (first | (go_at_call 21; ((with_reducible refine (cI _).mono ?_); rintro e w' ⟨rfl, rfl⟩)) | (go_at_call 41; refine cW.mono ?_; rintro e w3 ⟨rfl, hI3, hb3⟩))
        go_roundw
        case rel => exact ⟨k + 1, by go_num, by omega, by rw [HS.out, encD_snoc, byteCells_append, byteCells_encodeRune, HB.out]; exact hI3, hbw.trans hb3, Lib.hid (by rw [HS.out, List.all_append, HA.out]; simp [HZ.out])⟩
        case measure => simp [intOf]; omega
    · have hkn : k = n := by omega
      subst hkn
      have ht : l.take k = l := by rw [List.take_of_length_le (by have := HN.out; omega)]
      rw [ht] at hI
      have hall := HA.out
      rw [ht] at hall
      have e1 : rs = ⟨(encD l).toArray⟩ := by rw [← HR.out.1]; simp [textS, hall]
      have e2 : re = 0 := by rw [← HR.out.2]; simp [textE, hall]
      subst e1
      subst e2
      have cS := Tryd.Builder_String_any_f w.heap.size w.heap.size (encD l) wr hI hbw.size
      clear hI hall ht HR HA HC
      go_wp2_with (go_at_call 42; refine cS.mono ?_; rintro e w3 ⟨rfl, _, hb3⟩)
      go_ret2
      exact ⟨rfl, hbw.trans hb3⟩
/-- Text at whatever slice of ints. -/
theorem text_any (v : Value) (l : List Int) (w : World) (h : Sl v l w) (hn : l.length ≤ 65536) :
    Calls Tryd.prog 12 #[v] w fun e w' => e = .returned (.tuple #[.string (textS l), .int .i64 (textE l)]) ∧ Below w.heap.size w w' := by
  obtain ⟨a, cap, rfl, hc⟩ := h
  exact text_core a cap l.length l w rfl hn hc
end Go.Proofs.YtjajeijeoohpoaaDoor
