/- The text that ReadDeep writes, as bytes, and what Read makes of it. Plain. -/
import Derived.Test.YtbbopdkbokbafaaGreatDoorRdPlain
namespace Go.Proofs.YtbbopdkbokbafaaGreatDoor
open Go.RowKit Go.Lib
def opU (k : Int) : List UInt8 := if k = 0 then [40] else if k = 1 then [91] else if k = 2 then [39] else if k = 3 then [44, 64] else [35, 39]
def clU (k : Int) : List UInt8 := if k = 0 then [41] else if k = 1 then [93] else []
def opsU (ks : List Int) : List UInt8 := ks.flatMap opU
def clsU (ks : List Int) : List UInt8 := ks.reverse.flatMap clU
def deepU (ks : List Int) : List UInt8 := opsU ks ++ 49 :: clsU ks
def bz (b : UInt8) : Int := (b.toNat : Int)
theorem opU_D (k : Int) : (opU k).map bz = opD k := by
  unfold opU opD
  repeat' split
  all_goals rfl
theorem clU_D (k : Int) : (clU k).map bz = clD k := by
  unfold clU clD
  repeat' split
  all_goals rfl
theorem clsU_cons (k : Int) (r : List Int) : clsU (k :: r) = clsU r ++ clU k := by simp [clsU]
theorem deepT_eq : ∀ ks : List Int, deepT ks = (deepU ks).map bz
  | [] => rfl
  | k :: r => by
    unfold deepT
    rw [deepT_eq r, ← opU_D, ← clU_D]
    unfold deepU
    rw [clsU_cons]
    simp [opsU]
theorem opU_in (k : Int) : ∀ b ∈ opU k, b ∈ ([40, 91, 39, 44, 64, 35] : List UInt8) := by
  unfold opU
  repeat' split
  all_goals decide
theorem clU_in (k : Int) : ∀ b ∈ clU k, b ∈ ([41, 93] : List UInt8) := by
  unfold clU
  repeat' split
  all_goals decide
theorem deepU_in (ks : List Int) : ∀ b ∈ deepU ks, b ∈ ([40, 91, 39, 44, 64, 35, 49, 41, 93] : List UInt8) := by
  intro b hb
  unfold deepU opsU clsU at hb
  rcases List.mem_append.1 hb with h | h
  · obtain ⟨k, _, h⟩ := List.mem_flatMap.1 h
    have := opU_in k b h
    revert this
    simp only [List.mem_cons, List.not_mem_nil, or_false]
    intro h
    rcases h with h | h | h | h | h | h <;> simp [h]
  · rcases List.mem_cons.1 h with h | h
    · simp [h]
    · obtain ⟨k, _, h⟩ := List.mem_flatMap.1 h
      have := clU_in k b h
      revert this
      simp only [List.mem_cons, List.not_mem_nil, or_false]
      intro h
      rcases h with h | h <;> simp [h]
theorem deepU_asc (ks : List Int) : ∀ b ∈ deepU ks, b.toNat < 128 := by
  intro b hb
  have := deepU_in ks b hb
  simp only [List.mem_cons, List.not_mem_nil, or_false] at this
  rcases this with h | h | h | h | h | h | h | h | h <;> (rw [h]; decide)
theorem deepT_quiet (ks : List Int) : ∀ c ∈ deepT ks, c ≠ 34 ∧ c ≠ 63 := by
  intro c hc
  rw [deepT_eq] at hc
  obtain ⟨b, hb, rfl⟩ := List.mem_map.1 hc
  have := deepU_in ks b hb
  simp only [List.mem_cons, List.not_mem_nil, or_false] at this
  rcases this with h | h | h | h | h | h | h | h | h <;> (rw [h]; decide)
theorem runesD_asc : ∀ l : List UInt8, (∀ b ∈ l, b.toNat < 128) → runesD l = l.map bz
  | [], _ => rfl
  | b :: r, h => by
    have hb := h b (.head _)
    have hd : decodeL (b :: r) = (b.toNat, 1) := decodeL_ascii b r hb
    rw [runesD_step _ (by simp), hd]
    show (b.toNat : Int) :: runesD r = _
    rw [runesD_asc r fun c hc => h c (.tail _ hc)]
    rfl
theorem validD_asc (l : List UInt8) (h : ∀ b ∈ l, b.toNat < 128) : validD l = true := by
  rw [validD_ascii l.length l fun b hb => h b (List.mem_of_mem_take hb)]
  simp [validD_nil]
theorem opU_pos (k : Int) : 1 ≤ (opU k).length ∧ (opU k).length ≤ 2 := by
  unfold opU
  repeat' split
  all_goals decide
theorem clU_len (k : Int) : (clU k).length ≤ 1 := by
  unfold clU
  repeat' split
  all_goals decide
theorem opsU_len : ∀ ks : List Int, ks.length ≤ (opsU ks).length ∧ (opsU ks).length ≤ 2 * ks.length
  | [] => by decide
  | k :: r => by
    have h1 := opU_pos k
    have h2 := opsU_len r
    have : opsU (k :: r) = opU k ++ opsU r := rfl
    rw [this, List.length_append, List.length_cons]
    omega
theorem clsU_len : ∀ ks : List Int, (clsU ks).length ≤ ks.length
  | [] => by decide
  | k :: r => by
    have h1 := clU_len k
    have h2 := clsU_len r
    rw [clsU_cons, List.length_append, List.length_cons]
    omega
theorem deepU_len (ks : List Int) : (deepU ks).length = (opsU ks).length + 1 + (clsU ks).length := by
  unfold deepU
  simp
  omega
theorem opsU_D (ks : List Int) : (opensD ks).length = (opsU ks).length := by
  unfold opensD opsU
  induction ks with
  | nil => rfl
  | cons k r ih => simp only [List.flatMap_cons, List.length_append, ih]; rw [← opU_D]; simp
theorem deep_skip (ks : List Int) : skipTo (deepT ks) 0 = 0 ∧ ch (deepT ks) 0 ≠ -1 := by
  obtain ⟨c, r, e, h1, h2, _⟩ := deepT_head ks
  have hd : (deepT ks).drop 0 = c :: r := e
  refine ⟨skip_none hd h1 h2, ?_⟩
  rw [(drop_ch hd).1]
  intro hc
  have : c ∈ deepT ks := by rw [e]; exact .head _
  rw [deepT_eq] at this
  obtain ⟨b, _, hb⟩ := List.mem_map.1 this
  unfold bz at hb
  omega
theorem read_deep_ok (ks : List Int) (hk : ks.length ≤ 200) (t : Tb) : ∃ x h', readO (deepT ks) (Hp.empty 1200) t 0 = .ok x ⟨h', t, (deepU ks).length, 0⟩ := by
  obtain ⟨h0, h1⟩ := deep_skip ks
  unfold readO
  rw [h0, if_neg h1]
  have hl : (deepT ks).length = (deepU ks).length := by rw [deepT_eq, List.length_map]
  have hl2 := deepU_len ks
  have hl3 := (opsU_len ks).1
  obtain ⟨x, h', e, _⟩ := deep_ok (deepT ks) ks ((deepT ks).length + 2) 0 ⟨Hp.empty 1200, t, 0, 0⟩ [] (by simp) rfl (by simp; omega) ⟨by simp [Hp.empty]; omega, by simp [Hp.empty, total]; omega⟩ (by omega)
  refine ⟨x, h', ?_⟩
  rw [e]
  simp [hl]
theorem read_deep_bad (ks : List Int) (hk : 200 < ks.length) (t : Tb) : ∃ s', readO (deepT ks) (Hp.empty 1200) t 0 = .bad 12 ((opsU (ks.take 200)).length : Nat) s' := by
  obtain ⟨h0, h1⟩ := deep_skip ks
  unfold readO
  rw [h0, if_neg h1]
  have hl : (deepT ks).length = (deepU ks).length := by rw [deepT_eq, List.length_map]
  have hl2 := deepU_len ks
  have hl3 := (opsU_len ks).1
  obtain ⟨s', e⟩ := deep_bad (deepT ks) ks ((deepT ks).length + 2) ⟨Hp.empty 1200, t, 0, 0⟩ [] (by simp) (by simp) (by simp; omega) (by omega)
  refine ⟨s', ?_⟩
  rw [e]
  simp [opsU_D]
end Go.Proofs.YtbbopdkbokbafaaGreatDoor
