/- ReadDeep, for every slice of integers. Conditions: unicode/utf8's two tables; strconv.ErrRange holds an error, or nil. -/
import Derived.Test.YtbbopdkbokbafaaGreatDoorRdLives
import Derived.Test.YtbbopdkbokbafaaGreatDoorRdDeepText
import Derived.Test.YtbbopdkbokbafaaGreatDoorRdArgs
import Derived.Deep.LoopGhost
namespace Go.Proofs.YtbbopdkbokbafaaGreatDoor
open Go.RowKit Go.Lib
def ksOf (L : List Int) : List Int := L.map fun a => pickZ a 5
def atOf (ks : List Int) (k : Nat) : Int := if k ≤ 200 then 0 else ((opsU (ks.take 200)).length : Nat)
theorem ks_take {L : List Int} {k : Nat} {a q : Int} (ha : L[k]? = some a) (hq : pickZ a 5 = q) : (ksOf L).take (k + 1) = (ksOf L).take k ++ [q] := by
  have : (ksOf L)[k]? = some q := by unfold ksOf; rw [List.getElem?_map, ha]; simp [hq]
  rw [List.take_add_one, this]
  rfl
theorem ops_step {L : List Int} {k : Nat} {a q : Int} {sB : ByteArray} {A : Array UInt8} (ha : L[k]? = some a) (hq : pickZ a 5 = q) (hS : sB.data.toList = opsU ((ksOf L).take k)) (hA : A.toList = opU q) : (sB ++ ⟨A⟩ : ByteArray).data.toList = opsU ((ksOf L).take (k + 1)) := by
  rw [ks_take ha hq, ByteArray.data_append, Array.toList_append, hS, hA]
  simp [opsU]
theorem cls_step {L : List Int} {k : Nat} {a q : Int} {bB : ByteArray} {A : Array UInt8} (ha : L[k]? = some a) (hq : pickZ a 5 = q) (hS : bB.data.toList = clsU ((ksOf L).take k)) (hA : A.toList = clU q) : (⟨A⟩ ++ bB : ByteArray).data.toList = clsU ((ksOf L).take (k + 1)) := by
  rw [ks_take ha hq, ByteArray.data_append, Array.toList_append, hS, hA]
  simp [clsU]
theorem at_step (ks : List Int) {k : Nat} (h : ¬ (k : Int) = 200) : atOf ks (k + 1) = atOf ks k := by
  unfold atOf
  by_cases h1 : k ≤ 200
  · rw [if_pos h1, if_pos (by omega)]
  · rw [if_neg h1, if_neg (by omega)]
theorem at_200 (L : List Int) {k : Nat} {sB : ByteArray} (h : (k : Int) = 200) (hS : sB.data.toList = opsU ((ksOf L).take k)) : atOf (ksOf L) (k + 1) = (sB.size : Int) := by
  have : k = 200 := by omega
  subst this
  unfold atOf
  rw [if_neg (by omega), ← hS]
  show ((sB.data.toList.length : Nat) : Int) = ((sB.data.size : Nat) : Int)
  rw [Array.length_toList]
theorem size_ops {L : List Int} {k : Nat} {sB : ByteArray} (hS : sB.data.toList = opsU ((ksOf L).take k)) : sB.size ≤ 2 * k := by
  have h1 := (opsU_len ((ksOf L).take k)).2
  have h2 : ((ksOf L).take k).length ≤ k := by simp; omega
  rw [← hS] at h1
  simp only [ByteArray.size, ← Array.length_toList]
  omega
theorem size_cls {L : List Int} {k : Nat} {sB : ByteArray} (hS : sB.data.toList = clsU ((ksOf L).take k)) : sB.size ≤ k := by
  have h1 := clsU_len ((ksOf L).take k)
  have h2 : ((ksOf L).take k).length ≤ k := by simp; omega
  rw [← hS] at h1
  simp only [ByteArray.size, ← Array.length_toList]
  omega
set_option maxHeartbeats 4000000 in
theorem rdeep_any (v : Value) (L : List Int) (w : World) (hL : ArgI w v L) (hT : Tabs w) (hE : Errs w) :
    Calls Tryz.prog 9 #[v] w fun e w' => e = .returned (.bool true) ∧ Below w.heap.size w w' := by
  obtain ⟨a0, c0, rfl⟩ := hL.slice
  have HA := Lib.hid (And.intro hL (And.intro hT hE))
  have cL := rlives_any w hT hE
  clear hL hT hE
  go_enter Tryz.func9, Tryz.ntmps9
  go_wp2_with fail
  refine cL.mono ?_
  rintro e W0 ⟨rfl, hb0⟩
  have H0 := Lib.hid hb0
  clear hb0 cL
  by_cases h250 : (250 : Int) < (L.length : Int)
  · go_wp2
    go_ret
    exact ⟨rfl, H0.out⟩
  · go_wp2_with fail
    go_loopg [3, 4, 5, 6] L.length (fun gk c3 c4 c5 c6 wr => ∃ (k : Nat) (sB bB : ByteArray), gk = L.length - k ∧ k ≤ L.length ∧ c3 = .string sB ∧ c4 = .string bB ∧ c5 = .int .i64 (atOf (ksOf L) k) ∧ c6 = .int .i64 k ∧ Hid (sB.data.toList = opsU ((ksOf L).take k) ∧ bB.data.toList = clsU ((ksOf L).take k)) ∧ Hid (Below w.heap.size w wr))
    case atStart => exact ⟨0, ⟨#[]⟩, ⟨#[]⟩, by omega, Nat.zero_le _, rfl, rfl, rfl, rfl, Lib.hid ⟨rfl, rfl⟩, H0⟩
    case round =>
      obtain ⟨k, sB, bB, hgk, hk, rfl, rfl, rfl, rfl, HS, HB⟩ := hrel
      have hs1 := size_ops HS.out.1
      have hs2 := size_cls HS.out.2
      by_cases hlt : (k : Int) < (L.length : Int)
      · obtain ⟨a, ha⟩ : ∃ a, L[k]? = some a := ⟨_, List.getElem?_eq_getElem (by omega)⟩
        obtain ⟨b, o, ha0, hbw, hcell⟩ := HA.out.1.elem ha
        subst ha0
        have c0' : wr.cell? ⟨b, o + k, none⟩ = some (.int .i64 a) := (HB.out.cell (p := ⟨b, o + k, none⟩) hbw).trans hcell
        have cP := fun W => pick_any a 5 W (by decide) (by decide)
        have hk5 := pickZ_in a 5 (by decide)
        have HKK := Lib.hid (And.intro ha hgk)
        have hk1 : k < 250 := by omega
        clear hcell hgk H0 h250 hk ha
        have h5 : pickZ a 5 = 0 ∨ pickZ a 5 = 1 ∨ pickZ a 5 = 2 ∨ pickZ a 5 = 3 ∨ pickZ a 5 = 4 := by omega
        have hp5 : ∃ q, pickZ a 5 = q := ⟨_, rfl⟩
        obtain ⟨q, hq⟩ := hp5
        rw [hq] at cP h5
        have HQ := Lib.hid hq
        clear hk5 hq
        by_cases h200 : (k : Int) = 200
        · obtain rfl : k = 200 := by omega
          have HAT := Lib.hid (at_200 L h200 HS.out.1)
          clear h200
          rcases h5 with h5 | h5 | h5 | h5 | h5
          · subst h5
            go_wp2_with (go_at_call 38; ((with_reducible refine (cP _).mono ?_); rintro e w' ⟨rfl, rfl⟩))
            go_roundg (L.length - (200 + 1))
            case measure => have := HKK.out.2; omega
            case rel => exact ⟨200 + 1, _, _, rfl, by omega, rfl, rfl, by rw [HAT.out], by go_num, Lib.hid ⟨ops_step (A := #[40]) HKK.out.1 HQ.out HS.out.1 rfl, cls_step (A := #[41]) HKK.out.1 HQ.out HS.out.2 rfl⟩, Lib.hid ((HB.out.alloc HB.out.size _).alloc (Nat.le_trans HB.out.size (by simp)) _)⟩
          · subst h5
            go_wp2_with (go_at_call 38; ((with_reducible refine (cP _).mono ?_); rintro e w' ⟨rfl, rfl⟩))
            go_roundg (L.length - (200 + 1))
            case measure => have := HKK.out.2; omega
            case rel => exact ⟨200 + 1, _, _, rfl, by omega, rfl, rfl, by rw [HAT.out], by go_num, Lib.hid ⟨ops_step (A := #[91]) HKK.out.1 HQ.out HS.out.1 rfl, cls_step (A := #[93]) HKK.out.1 HQ.out HS.out.2 rfl⟩, Lib.hid ((HB.out.alloc HB.out.size _).alloc (Nat.le_trans HB.out.size (by simp)) _)⟩
          · subst h5
            go_wp2_with (go_at_call 38; ((with_reducible refine (cP _).mono ?_); rintro e w' ⟨rfl, rfl⟩))
            go_roundg (L.length - (200 + 1))
            case measure => have := HKK.out.2; omega
            case rel => exact ⟨200 + 1, _, _, rfl, by omega, rfl, rfl, by rw [HAT.out], by go_num, Lib.hid ⟨ops_step (A := #[39]) HKK.out.1 HQ.out HS.out.1 rfl, cls_step (A := #[]) HKK.out.1 HQ.out HS.out.2 rfl⟩, Lib.hid ((HB.out.alloc HB.out.size _).alloc (Nat.le_trans HB.out.size (by simp)) _)⟩
          · subst h5
            go_wp2_with (go_at_call 38; ((with_reducible refine (cP _).mono ?_); rintro e w' ⟨rfl, rfl⟩))
            go_roundg (L.length - (200 + 1))
            case measure => have := HKK.out.2; omega
            case rel => exact ⟨200 + 1, _, _, rfl, by omega, rfl, rfl, by rw [HAT.out], by go_num, Lib.hid ⟨ops_step (A := #[44, 64]) HKK.out.1 HQ.out HS.out.1 rfl, cls_step (A := #[]) HKK.out.1 HQ.out HS.out.2 rfl⟩, Lib.hid ((HB.out.alloc HB.out.size _).alloc (Nat.le_trans HB.out.size (by simp)) _)⟩
          · subst h5
            go_wp2_with (go_at_call 38; ((with_reducible refine (cP _).mono ?_); rintro e w' ⟨rfl, rfl⟩))
            go_roundg (L.length - (200 + 1))
            case measure => have := HKK.out.2; omega
            case rel => exact ⟨200 + 1, _, _, rfl, by omega, rfl, rfl, by rw [HAT.out], by go_num, Lib.hid ⟨ops_step (A := #[35, 39]) HKK.out.1 HQ.out HS.out.1 rfl, cls_step (A := #[]) HKK.out.1 HQ.out HS.out.2 rfl⟩, Lib.hid ((HB.out.alloc HB.out.size _).alloc (Nat.le_trans HB.out.size (by simp)) _)⟩
        · have HAT := Lib.hid (at_step (ksOf L) h200)
          rcases h5 with h5 | h5 | h5 | h5 | h5
          · subst h5
            go_wp2_with (go_at_call 38; ((with_reducible refine (cP _).mono ?_); rintro e w' ⟨rfl, rfl⟩))
            go_roundg (L.length - (k + 1))
            case measure => have := HKK.out.2; omega
            case rel => exact ⟨k + 1, _, _, rfl, by omega, rfl, rfl, by rw [HAT.out], by go_num, Lib.hid ⟨ops_step (A := #[40]) HKK.out.1 HQ.out HS.out.1 rfl, cls_step (A := #[41]) HKK.out.1 HQ.out HS.out.2 rfl⟩, Lib.hid ((HB.out.alloc HB.out.size _).alloc (Nat.le_trans HB.out.size (by simp)) _)⟩
          · subst h5
            go_wp2_with (go_at_call 38; ((with_reducible refine (cP _).mono ?_); rintro e w' ⟨rfl, rfl⟩))
            go_roundg (L.length - (k + 1))
            case measure => have := HKK.out.2; omega
            case rel => exact ⟨k + 1, _, _, rfl, by omega, rfl, rfl, by rw [HAT.out], by go_num, Lib.hid ⟨ops_step (A := #[91]) HKK.out.1 HQ.out HS.out.1 rfl, cls_step (A := #[93]) HKK.out.1 HQ.out HS.out.2 rfl⟩, Lib.hid ((HB.out.alloc HB.out.size _).alloc (Nat.le_trans HB.out.size (by simp)) _)⟩
          · subst h5
            go_wp2_with (go_at_call 38; ((with_reducible refine (cP _).mono ?_); rintro e w' ⟨rfl, rfl⟩))
            go_roundg (L.length - (k + 1))
            case measure => have := HKK.out.2; omega
            case rel => exact ⟨k + 1, _, _, rfl, by omega, rfl, rfl, by rw [HAT.out], by go_num, Lib.hid ⟨ops_step (A := #[39]) HKK.out.1 HQ.out HS.out.1 rfl, cls_step (A := #[]) HKK.out.1 HQ.out HS.out.2 rfl⟩, Lib.hid ((HB.out.alloc HB.out.size _).alloc (Nat.le_trans HB.out.size (by simp)) _)⟩
          · subst h5
            go_wp2_with (go_at_call 38; ((with_reducible refine (cP _).mono ?_); rintro e w' ⟨rfl, rfl⟩))
            go_roundg (L.length - (k + 1))
            case measure => have := HKK.out.2; omega
            case rel => exact ⟨k + 1, _, _, rfl, by omega, rfl, rfl, by rw [HAT.out], by go_num, Lib.hid ⟨ops_step (A := #[44, 64]) HKK.out.1 HQ.out HS.out.1 rfl, cls_step (A := #[]) HKK.out.1 HQ.out HS.out.2 rfl⟩, Lib.hid ((HB.out.alloc HB.out.size _).alloc (Nat.le_trans HB.out.size (by simp)) _)⟩
          · subst h5
            go_wp2_with (go_at_call 38; ((with_reducible refine (cP _).mono ?_); rintro e w' ⟨rfl, rfl⟩))
            go_roundg (L.length - (k + 1))
            case measure => have := HKK.out.2; omega
            case rel => exact ⟨k + 1, _, _, rfl, by omega, rfl, rfl, by rw [HAT.out], by go_num, Lib.hid ⟨ops_step (A := #[35, 39]) HKK.out.1 HQ.out HS.out.1 rfl, cls_step (A := #[]) HKK.out.1 HQ.out HS.out.2 rfl⟩, Lib.hid ((HB.out.alloc HB.out.size _).alloc (Nat.le_trans HB.out.size (by simp)) _)⟩
      · have hkl : k = L.length := by omega
        subst hkl
        have htk : (ksOf L).take L.length = ksOf L := by rw [List.take_of_length_le]; simp [ksOf]
        rw [htk] at HS
        have hx : ((sB ++ ⟨#[49]⟩ ++ bB : ByteArray)).data.toList = deepU (ksOf L) := by
          rw [ByteArray.data_append, ByteArray.data_append, Array.toList_append, Array.toList_append, HS.out.1, HS.out.2]
          simp [deepU]
        have hxs : (sB ++ ⟨#[49]⟩ ++ bB : ByteArray).size ≤ 65536 := by
          rw [ByteArray.size_append, ByteArray.size_append]
          have : (⟨#[49]⟩ : ByteArray).size = 1 := rfl
          omega
        have hsz : ((deepU (ksOf L)).length : Int) = (sB.size : Int) + 1 + (bB.size : Int) := by
          rw [deepU_len, ← HS.out.1, ← HS.out.2, Array.length_toList, Array.length_toList]
          show ((sB.data.size + 1 + bB.data.size : Nat) : Int) = ((sB.data.size : Nat) : Int) + 1 + ((bB.data.size : Nat) : Int)
          omega
        have hTr : Tabs wr := HA.out.2.1.below HB.out HA.out.2.1.size
        have hEr : Errs wr := HA.out.2.2.below HB.out (Nat.le_refl _)
        have hkl : (ksOf L).length = L.length := by simp [ksOf]
        have PP := Lib.hid (And.intro hx (And.intro hxs (And.intro hsz (And.intro hTr (And.intro hEr hkl)))))
        clear hx hxs hsz hTr hEr htk hgk hk hkl
        go_wp2_with fail
        refine (lfresh_any 1200 wr (by decide) (by decide)).mono ?_
        rintro e W1 ⟨hb, tb, F, rfl, hb1, h1⟩
        have H1 := Lib.hid (And.intro hb1 h1)
        clear hb1 h1
        obtain ⟨hx, hxs, hsz, hTr, hEr, hkl⟩ := PP.out
        have cR := read_plain H1.out.2 hTr hEr (sB ++ ⟨#[49]⟩ ++ bB) hxs (by rw [hx]; exact validD_asc _ (deepU_asc _)) (L := deepT (ksOf L)) (by rw [hx, runesD_asc _ (deepU_asc _), deepT_eq]) (deepT_quiet _) 0 (Nat.zero_le _)
        by_cases h2 : (200 : Int) < (L.length : Int)
        · have hat : atOf (ksOf L) L.length = ((opsU ((ksOf L).take 200)).length : Nat) := by unfold atOf; rw [if_neg (by omega)]
          obtain ⟨s', hr⟩ := read_deep_bad (ksOf L) (by omega) tbN
          rw [hr, ← hat] at cR
          clear hx hxs hsz hTr hEr hkl hr hat
          generalize atOf (ksOf L) L.length = at9 at *
          go_wp2_with fail
          refine cR.mono ?_
          rintro e W2 ⟨rfl, hw⟩
          obtain ⟨F2, hw2, _⟩ := hw.ht
          have H2 := Lib.hid hw2.below
          clear hw hw2 cR
          go_wp2
          go_ret
          have q := HB.out.trans (H2.out.mono HB.out.size)
          exact ⟨rfl, (q.alloc q.size _).alloc (Nat.le_trans q.size (by simp)) _⟩
        · obtain ⟨y, h', hr⟩ := read_deep_ok (ksOf L) (by omega) tbN
          rw [hr] at cR
          have cR2 := cR
          unfold ReadDoes at cR2
          simp only [hsz] at cR2
          clear hx hxs hsz hTr hEr hkl hr cR
          generalize atOf (ksOf L) L.length = at9 at *
          go_wp2_with fail
          refine cR2.mono ?_
          rintro e W2 ⟨rfl, hw⟩
          obtain ⟨F2, hw2, _⟩ := hw.ht
          have H2 := Lib.hid hw2.below
          clear hw hw2 cR2
          go_wp2
          go_ret
          have q := HB.out.trans (H2.out.mono HB.out.size)
          exact ⟨rfl, (q.alloc q.size _).alloc (Nat.le_trans q.size (by simp)) _⟩
end Go.Proofs.YtbbopdkbokbafaaGreatDoor
