/- The contracts of the reference's Text and of copyistkit.Own at a slice of at most 65,536 ints. Conditions: none but that the slice's cells hold the ints. -/
import Derived.Test.YtjajeijeoohpoaaDoorBytes
import Derived.Lib.BufferRead
namespace Go.Proofs.YtjajeijeoohpoaaDoor
open Go.RowKit Go.Lib
theorem info5 : (Tryd.prog.info? 5).map (fun i => (i.zero, i.size, i.bytes)) = some (some (.int .u8 0), 1, 1) := by kernel_rfl
theorem add0 (g j : Nat) : (⟨g, 0, none⟩ : Addr).add j = ⟨g, j, none⟩ := by
  unfold Addr.add
  by_cases h : j = 0
  · subst h; simp
  · simp [h]
/-- A slice of bytes that the call owns. -/
def Byts (B : Nat) (v : Value) (l : List UInt8) (w : World) : Prop := w.ownsRow B 5 1 v l.length (byteCells l)
theorem Byts.below {B : Nat} {v : Value} {l : List UInt8} {w w' : World} (h : Byts B v l w) (hb : Below w.heap.size w w') : Byts B v l w' := by
  obtain ⟨h1, h2⟩ := h
  refine ⟨h1, ?_⟩
  rcases h2 with h2 | ⟨g, cap, cur, hv, hg, hh, hrest⟩
  · exact .inl h2
  · exact .inr ⟨g, cap, cur, hv, hg, (hb.block g (Array.getElem?_eq_some_iff.1 hh).1).trans hh, hrest⟩
theorem Byts.ge {B : Nat} {v : Value} {l : List UInt8} {w : World} (h : Byts B v l w) : ∀ k, v.ownBlock = some k → B ≤ k := by
  obtain ⟨_, h2⟩ := h
  rcases h2 with ⟨rfl, _⟩ | ⟨g, cap, cur, rfl, hg, _⟩
  · intro k hk; simp [Value.ownBlock] at hk
  · intro k hk; simp [Value.ownBlock] at hk; omega
/-- Made a string it is these bytes. -/
theorem Byts.str {B : Nat} {v : Value} {l : List UInt8} {w : World} (h : Byts B v l w) : (convert 46 9 v).run Tryd.prog w = .ok (.string ⟨l.toArray⟩) w := by
  obtain ⟨h1, h2⟩ := h
  rcases h2 with ⟨hv, h0⟩ | ⟨g, cap, cur, hv, _, hh, hn, hc, hsz, ht⟩
  · have : l = [] := List.length_eq_zero_iff.1 h0
    subst this
    rw [hv]
    exact run_convert_nil_bytes w 46 9 5 0 Tryd.underlying46 Tryd.underlying5 Tryd.underlying9
  · rw [hv]
    refine run_convert_bytes_back w 46 9 5 ⟨g, 0, none⟩ cap l Tryd.underlying46 Tryd.underlying5 Tryd.underlying9 (fun j hj => ?_)
    have h3 : (byteCells l)[j]? = some (.int .u8 (l[j].toNat : Int)) := by simp [byteCells, hj]
    rw [← ht, List.getElem?_take_of_lt (by omega)] at h3
    have h4 := cell_of_row w g j cur 5 (0, 0) hh
    rw [add0, h4]
    simpa using h3
theorem runeCells_one (c : Int) : ∀ u ∈ runeCells c, u.oneCell' = true := by
  intro u hu
  unfold runeCells at hu
  obtain ⟨x, _, rfl⟩ := List.mem_map.1 hu
  rfl
theorem new_cells (w : World) (L : List Value) : ∀ j u, L[j]? = some u → (w.alloc (.cells L.toArray 5)).cell? ((⟨w.heap.size, 0, none⟩ : Addr).add j) = some u := by
  intro j u hj
  rw [add0, World.cell?_alloc_at _ _ _ _ rfl]
  simpa using hj
set_option maxHeartbeats 1000000 in
theorem refText_core (a : Option Addr) (cap n : Nat) (l : List Int) (w : World) (hn : l.length = n) (hn2 : n ≤ 65536)
    (hc : ∀ i x, l[i]? = some x → ∃ b off, a = some ⟨b, off, none⟩ ∧ b < w.heap.size ∧ w.cell? ⟨b, off + i, none⟩ = some (.int .i64 x)) :
    Calls Tryd.prog 26 #[.slice a n cap] w fun e w' => e = .returned (.tuple #[.string (textS l), .int .i64 (textE l)]) ∧ Below w.heap.size w w' := by
  obtain ⟨rs, hrs⟩ : ∃ rs, textS l = rs := ⟨_, rfl⟩
  obtain ⟨re, hre⟩ : ∃ re, textE l = re := ⟨_, rfl⟩
  rw [hrs, hre]
  obtain ⟨i0, hi, hz0, hz1, hz2⟩ := info_parts info5
  have HR : Hid _ := Lib.hid (And.intro hrs hre)
  have HC : Hid _ := Lib.hid hc
  have HN : Hid _ := Lib.hid hn
  clear hrs hre hc hn
  go_enter Tryd.func26, Tryd.ntmps26
  go_wp2
  go_loopw [4, 5] (fun v i wr => ∃ k : Nat, i = .int .i64 k ∧ k ≤ n ∧ Byts w.heap.size v (encD (l.take k)) wr ∧ Below w.heap.size w wr ∧ Hid ((l.take k).all isZ = true)) (fun _ i _ => n - (intOf i).toNat)
  case atStart => exact ⟨0, rfl, Nat.zero_le _, World.ownsRow_nil _ _ _ _, Below.refl _ _, Lib.hid rfl⟩
  case round =>
    obtain ⟨k, rfl, hk, hI, hbw, HA⟩ := hrel
    by_cases hlt : (k : Int) < (n : Int)
    · obtain ⟨x, hx⟩ : ∃ x, l[k]? = some x := ⟨l[k]'(by have := HN.out; omega), List.getElem?_eq_getElem _⟩
      obtain ⟨b, off, ha, hbl, hcell⟩ := HC.out k x hx
      have hcell2 : wr.cell? ⟨b, off + k, none⟩ = some (.int .i64 x) := by rw [hbw.cell (by simpa using hbl)]; exact hcell
      have hsn := take_snoc_int l k x hx
      have hlen := encD_len (l.take k)
      have hkl : (l.take k).length ≤ k := by simp; omega
      have cI := fun w => isR_any x w
      subst ha
      have HX : Hid _ := Lib.hid hx
      have HS : Hid _ := Lib.hid hsn
      clear hcell hx hsn
      cases hz : isZ x
      · rw [hz] at cI
        have hnot : l.all isZ = false := by
          rw [List.all_eq_false]
          exact ⟨x, List.mem_of_getElem? HX.out, by simp [hz]⟩
        have e1 : rs = ⟨#[]⟩ := by rw [← HR.out.1]; simp [textS, hnot]
        have e2 : re = 3 := by rw [← HR.out.2]; simp [textE, hnot]
        subst e1
        subst e2
        clear hz hnot HR HA HX HS hI hlen hkl
        go_wp2_with (go_at_call 31; ((with_reducible refine (cI _).mono ?_); rintro e w' ⟨rfl, rfl⟩))
        go_ret2
        exact ⟨rfl, hbw⟩
      · rw [hz] at cI
        have HZ : Hid _ := Lib.hid hz
        have cB := fun W => bytes_any x W hz
        have hk4 := Lib.runeCells_le x
        obtain ⟨rc, hrc⟩ : ∃ rc, runeCells x = rc := ⟨_, rfl⟩
        rw [hrc] at cB hk4
        have hone := runeCells_one x
        rw [hrc] at hone
        have HRC : Hid _ := Lib.hid (And.intro hrc hone)
        have hbz := hbw.size
        obtain ⟨m, hm⟩ : ∃ m, (encD (l.take k)).length = m := ⟨_, rfl⟩
        have HM : Hid _ := Lib.hid hm
        rw [hm] at hlen
        have HI : Hid (wr.ownsRow w.heap.size 5 1 u4 m (byteCells (encD (l.take k)))) := Lib.hid (hm ▸ hI)
        have HG : Hid (∀ kk, u4.ownBlock = some kk → w.heap.size ≤ kk) := Lib.hid hI.ge
        have HBW : Hid _ := Lib.hid hbw
        clear hz hI hrc hone hm hbw
        go_wp2_with (first | (go_at_call 31; ((with_reducible refine (cI _).mono ?_); rintro e w' ⟨rfl, rfl⟩)) | (go_at_call 45; ((with_reducible refine (cB _).mono ?_); rintro e w' ⟨rfl, rfl⟩)) | (at_builtin; refine wpList_append_own _ rfl _ _ 46 rfl w.heap.size 5 i0 (.int .u8 0) 1 1 Tryd.underlying46 hi hz0 hz1 hz2 rfl (by decide) _ m (byteCells (encD (l.take k))) rfl (HI.out.alloc _) _ rc.length _ rc rfl (by simp) (new_cells wr rc) HRC.out.2 ?c3 ?c4 ?c5 ?_))
        case c3 => unfold maxLen; omega
        case c4 => omega
        case c5 => simp; omega
        intro v' w3 hown3 hgr _
        have hbw3 : Below w.heap.size w w3 := (HBW.out.alloc hbz _).grown hgr (by simp; omega) HG.out
        have hZ : Byts w.heap.size v' (encD (l.take (k + 1))) w3 := by
          unfold Byts
          rw [HS.out, encD_snoc, byteCells_append, byteCells_encodeRune, HRC.out.1, List.length_append, HM.out]
          have : (encodeRune x).length = rc.length := by rw [← runeCells_length, HRC.out.1]
          rw [this]
          exact hown3
        have HZ2 : Hid (_ ∧ _) := Lib.hid ⟨hZ, hbw3⟩
        clear hown3 hgr hbw3 hZ HI HG HBW cB cI HRC
        go_wp2
        go_roundw
        case rel => exact ⟨k + 1, by go_num, by omega, HZ2.out.1, HZ2.out.2, Lib.hid (by rw [HS.out, List.all_append, HA.out]; simp [HZ.out])⟩
        case measure => simp [intOf]; omega
    · have hkn : k = n := by omega
      subst hkn
      have ht : l.take k = l := by rw [List.take_of_length_le (by have := HN.out; omega)]
      rw [ht] at hI
      have hall := HA.out
      rw [ht] at hall
      have e1 : rs = ⟨(encD l).toArray⟩ := by rw [← HR.out.1]; simp [textS, hall]
      have e2 : re = 0 := by rw [← HR.out.2]; simp [textE, hall]
      subst e1
      subst e2
      have hconv := hI.str
      clear hI hall ht HR HA HC
      go_wp2
      go_ret2
      exact ⟨rfl, hbw⟩
theorem refText_any (v : Value) (l : List Int) (w : World) (h : Sl v l w) (hn : l.length ≤ 65536) :
    Calls Tryd.prog 26 #[v] w fun e w' => e = .returned (.tuple #[.string (textS l), .int .i64 (textE l)]) ∧ Below w.heap.size w w' := by
  obtain ⟨a, cap, rfl, hc⟩ := h
  exact refText_core a cap l.length l w rfl hn hc
end Go.Proofs.YtjajeijeoohpoaaDoor
