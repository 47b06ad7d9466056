/- The contract of the reference's List, Valid and Len, for every string of at most 100,000 bytes. Conditions: none. -/
import Derived.Test.YtjajeijeoohpoaaDoorPoint
import Derived.Test.YtjajeijeoohpoaaDoorJoins
namespace Go.Proofs.YtjajeijeoohpoaaDoor
open Go.RowKit Go.Lib
/-- What point gives. -/
def pointD (l : List UInt8) : Int × Int := if (decodeL l).1 = 65533 ∧ (decodeL l).2 = 1 then (0, 0) else ((decodeL l).1, (decodeL l).2)
theorem pt_eq {a b : Int} {l : List UInt8} (h : pointD l = (a, b)) : Ending.returned (.tuple #[.int .i64 a, .int .i64 b]) = Ending.returned (.tuple #[.int .i64 (pointD l).1, .int .i64 (pointD l).2]) := by rw [h]
theorem not_isZ {c : Int} (h : isZ c = false) : ¬ (0 ≤ c ∧ c ≤ 1114111 ∧ (c < 55296 ∨ 57343 < c)) := by rw [← isZ_def, h]; simp
theorem is_isZ {c : Int} (h : isZ c = true) : 0 ≤ c ∧ c ≤ 1114111 ∧ (c < 55296 ∨ 57343 < c) := (isZ_def c).1 h
set_option maxHeartbeats 4000000 in
theorem point_any (s : ByteArray) (w : World) (h : 0 < s.size) : Calls Tryd.prog 46 #[.string s] w fun e w' => e = .returned (.tuple #[.int .i64 (pointD s.data.toList).1, .int .i64 (pointD s.data.toList).2]) ∧ Below w.heap.size w w' := by
  have hlen : s.data.toList.length = s.size := by simp
  have k1 : ∀ w, Calls Tryd.prog 55 #[.string s, .int .i64 1] w fun e w' => e = .returned (.bool (tailB s 1)) ∧ w = w' := fun w => tail_any s 1 w
  have k2 : ∀ w, Calls Tryd.prog 55 #[.string s, .int .i64 2] w fun e w' => e = .returned (.bool (tailB s 2)) ∧ w = w' := fun w => tail_any s 2 w
  have k3 : ∀ w, Calls Tryd.prog 55 #[.string s, .int .i64 3] w fun e w' => e = .returned (.bool (tailB s 3)) ∧ w = w' := fun w => tail_any s 3 w
  have hdec := decodeL_N s.data.toList
  rw [hlen, getD_at s 0 h] at hdec
  obtain ⟨x0, h0⟩ : ∃ x0, s[0]'h = x0 := ⟨_, rfl⟩
  rw [h0] at hdec
  have y0 := x0.toNat_lt
  have t1 : tailB s 1 = true ↔ 1 < s.size ∧ (s.data.toList.getD 1 0).toNat / 64 = 2 := by unfold tailB; simp; omega
  have t2 : tailB s 2 = true ↔ 2 < s.size ∧ (s.data.toList.getD 2 0).toNat / 64 = 2 := by unfold tailB; simp; omega
  have t3 : tailB s 3 = true ↔ 3 < s.size ∧ (s.data.toList.getD 3 0).toNat / 64 = 2 := by unfold tailB; simp; omega
  have z1 := (s.data.toList.getD 1 0).toNat_lt
  have z2 := (s.data.toList.getD 2 0).toNat_lt
  have z3 := (s.data.toList.getD 3 0).toNat_lt
  unfold decodeN at hdec
  by_cases a1 : x0.toNat < 128
  · rw [if_pos a1] at hdec
    refine (point_a s x0 w h h0 a1).mono ?_
    rintro e w' ⟨he, hb⟩
    exact ⟨by rw [he]; exact pt_eq (by unfold pointD; rw [hdec, if_neg (by simp; omega)]; rfl), hb⟩
  · rw [if_neg a1] at hdec
    by_cases a2 : x0.toNat < 194 ∨ 245 ≤ x0.toNat
    · refine (point_e s x0 w h h0 (by omega)).mono ?_
      rintro e w' ⟨he, hb⟩
      refine ⟨by rw [he]; exact pt_eq (by
        have : decodeL s.data.toList = (65533, 1) := by
          rw [hdec]
          repeat' split
          all_goals first | rfl | (exfalso; omega)
        unfold pointD; rw [this]; rfl), hb⟩
    · obtain ⟨x1, g1⟩ : ∃ x1, s.data.toList.getD 1 0 = x1 := ⟨_, rfl⟩
      obtain ⟨x2, g2⟩ : ∃ x2, s.data.toList.getD 2 0 = x2 := ⟨_, rfl⟩
      obtain ⟨x3, g3⟩ : ∃ x3, s.data.toList.getD 3 0 = x3 := ⟨_, rfl⟩
      rw [g1, g2, g3] at hdec
      rw [g1] at z1 t1
      rw [g2] at z2 t2
      rw [g3] at z3 t3
      have i1 : ∀ hh : 1 < s.size, s[1]'hh = x1 := fun hh => by rw [← getD_at s 1 hh, g1]
      have i2 : ∀ hh : 2 < s.size, s[2]'hh = x2 := fun hh => by rw [← getD_at s 2 hh, g2]
      have i3 : ∀ hh : 3 < s.size, s[3]'hh = x3 := fun hh => by rw [← getD_at s 3 hh, g3]
      clear g1 g2 g3
      cases b1 : tailB s 1 <;> cases b2 : tailB s 2 <;> cases b3 : tailB s 3
      all_goals
        rw [b1] at k1 t1
        rw [b2] at k2 t2
        rw [b3] at k3 t3
        simp only [Bool.false_eq_true, false_iff, true_iff] at t1 t2 t3
      · by_cases a3 : x0.toNat < 224
        · refine (point_b0 s x0 w h h0 (by omega) a3 k1).mono ?_
          rintro e w' ⟨he, hb⟩
          refine ⟨by rw [he]; exact pt_eq (by
            have : decodeL s.data.toList = (65533, 1) := by
              rw [hdec]
              repeat' split
              all_goals first | rfl | (exfalso; omega)
            unfold pointD; rw [this]; rfl), hb⟩
        · by_cases a4 : x0.toNat < 240
          · refine (point_c0 s x0 false false w h h0 (by omega) a4 rfl k1 k2).mono ?_
            rintro e w' ⟨he, hb⟩
            refine ⟨by rw [he]; exact pt_eq (by
              have : decodeL s.data.toList = (65533, 1) := by
                rw [hdec]
                repeat' split
                all_goals first | rfl | (exfalso; omega)
              unfold pointD; rw [this]; rfl), hb⟩
          · refine (point_d0 s x0 false false false w h h0 (by omega) (by omega) rfl k1 k2 k3).mono ?_
            rintro e w' ⟨he, hb⟩
            refine ⟨by rw [he]; exact pt_eq (by
              have : decodeL s.data.toList = (65533, 1) := by
                rw [hdec]
                repeat' split
                all_goals first | rfl | (exfalso; omega)
              unfold pointD; rw [this]; rfl), hb⟩
      · by_cases a3 : x0.toNat < 224
        · refine (point_b0 s x0 w h h0 (by omega) a3 k1).mono ?_
          rintro e w' ⟨he, hb⟩
          refine ⟨by rw [he]; exact pt_eq (by
            have : decodeL s.data.toList = (65533, 1) := by
              rw [hdec]
              repeat' split
              all_goals first | rfl | (exfalso; omega)
            unfold pointD; rw [this]; rfl), hb⟩
        · by_cases a4 : x0.toNat < 240
          · refine (point_c0 s x0 false false w h h0 (by omega) a4 rfl k1 k2).mono ?_
            rintro e w' ⟨he, hb⟩
            refine ⟨by rw [he]; exact pt_eq (by
              have : decodeL s.data.toList = (65533, 1) := by
                rw [hdec]
                repeat' split
                all_goals first | rfl | (exfalso; omega)
              unfold pointD; rw [this]; rfl), hb⟩
          · refine (point_d0 s x0 false false true w h h0 (by omega) (by omega) rfl k1 k2 k3).mono ?_
            rintro e w' ⟨he, hb⟩
            refine ⟨by rw [he]; exact pt_eq (by
              have : decodeL s.data.toList = (65533, 1) := by
                rw [hdec]
                repeat' split
                all_goals first | rfl | (exfalso; omega)
              unfold pointD; rw [this]; rfl), hb⟩
      · by_cases a3 : x0.toNat < 224
        · refine (point_b0 s x0 w h h0 (by omega) a3 k1).mono ?_
          rintro e w' ⟨he, hb⟩
          refine ⟨by rw [he]; exact pt_eq (by
            have : decodeL s.data.toList = (65533, 1) := by
              rw [hdec]
              repeat' split
              all_goals first | rfl | (exfalso; omega)
            unfold pointD; rw [this]; rfl), hb⟩
        · by_cases a4 : x0.toNat < 240
          · refine (point_c0 s x0 false true w h h0 (by omega) a4 rfl k1 k2).mono ?_
            rintro e w' ⟨he, hb⟩
            refine ⟨by rw [he]; exact pt_eq (by
              have : decodeL s.data.toList = (65533, 1) := by
                rw [hdec]
                repeat' split
                all_goals first | rfl | (exfalso; omega)
              unfold pointD; rw [this]; rfl), hb⟩
          · refine (point_d0 s x0 false true false w h h0 (by omega) (by omega) rfl k1 k2 k3).mono ?_
            rintro e w' ⟨he, hb⟩
            refine ⟨by rw [he]; exact pt_eq (by
              have : decodeL s.data.toList = (65533, 1) := by
                rw [hdec]
                repeat' split
                all_goals first | rfl | (exfalso; omega)
              unfold pointD; rw [this]; rfl), hb⟩
      · by_cases a3 : x0.toNat < 224
        · refine (point_b0 s x0 w h h0 (by omega) a3 k1).mono ?_
          rintro e w' ⟨he, hb⟩
          refine ⟨by rw [he]; exact pt_eq (by
            have : decodeL s.data.toList = (65533, 1) := by
              rw [hdec]
              repeat' split
              all_goals first | rfl | (exfalso; omega)
            unfold pointD; rw [this]; rfl), hb⟩
        · by_cases a4 : x0.toNat < 240
          · refine (point_c0 s x0 false true w h h0 (by omega) a4 rfl k1 k2).mono ?_
            rintro e w' ⟨he, hb⟩
            refine ⟨by rw [he]; exact pt_eq (by
              have : decodeL s.data.toList = (65533, 1) := by
                rw [hdec]
                repeat' split
                all_goals first | rfl | (exfalso; omega)
              unfold pointD; rw [this]; rfl), hb⟩
          · refine (point_d0 s x0 false true true w h h0 (by omega) (by omega) rfl k1 k2 k3).mono ?_
            rintro e w' ⟨he, hb⟩
            refine ⟨by rw [he]; exact pt_eq (by
              have : decodeL s.data.toList = (65533, 1) := by
                rw [hdec]
                repeat' split
                all_goals first | rfl | (exfalso; omega)
              unfold pointD; rw [this]; rfl), hb⟩
      · by_cases a3 : x0.toNat < 224
        · refine (point_b1 s x0 x1 w t1.1 h0 (i1 t1.1) (by omega) a3 k1).mono ?_
          rintro e w' ⟨he, hb⟩
          refine ⟨by rw [he]; exact pt_eq (by
            have : decodeL s.data.toList = ((((x0.toNat : Int) - 192) * 64 + (x1.toNat : Int) - 128).toNat, 2) := by
              rw [hdec]
              repeat' split
              all_goals first | (exfalso; omega) | (apply Prod.ext <;> simp only <;> omega)
            unfold pointD; rw [this, if_neg (by simp)]; apply Prod.ext <;> simp only <;> omega), hb⟩
        · by_cases a4 : x0.toNat < 240
          · refine (point_c0 s x0 true false w h h0 (by omega) a4 rfl k1 k2).mono ?_
            rintro e w' ⟨he, hb⟩
            refine ⟨by rw [he]; exact pt_eq (by
              have : decodeL s.data.toList = (65533, 1) := by
                rw [hdec]
                repeat' split
                all_goals first | rfl | (exfalso; omega)
              unfold pointD; rw [this]; rfl), hb⟩
          · refine (point_d0 s x0 true false false w h h0 (by omega) (by omega) rfl k1 k2 k3).mono ?_
            rintro e w' ⟨he, hb⟩
            refine ⟨by rw [he]; exact pt_eq (by
              have : decodeL s.data.toList = (65533, 1) := by
                rw [hdec]
                repeat' split
                all_goals first | rfl | (exfalso; omega)
              unfold pointD; rw [this]; rfl), hb⟩
      · by_cases a3 : x0.toNat < 224
        · refine (point_b1 s x0 x1 w t1.1 h0 (i1 t1.1) (by omega) a3 k1).mono ?_
          rintro e w' ⟨he, hb⟩
          refine ⟨by rw [he]; exact pt_eq (by
            have : decodeL s.data.toList = ((((x0.toNat : Int) - 192) * 64 + (x1.toNat : Int) - 128).toNat, 2) := by
              rw [hdec]
              repeat' split
              all_goals first | (exfalso; omega) | (apply Prod.ext <;> simp only <;> omega)
            unfold pointD; rw [this, if_neg (by simp)]; apply Prod.ext <;> simp only <;> omega), hb⟩
        · by_cases a4 : x0.toNat < 240
          · refine (point_c0 s x0 true false w h h0 (by omega) a4 rfl k1 k2).mono ?_
            rintro e w' ⟨he, hb⟩
            refine ⟨by rw [he]; exact pt_eq (by
              have : decodeL s.data.toList = (65533, 1) := by
                rw [hdec]
                repeat' split
                all_goals first | rfl | (exfalso; omega)
              unfold pointD; rw [this]; rfl), hb⟩
          · refine (point_d0 s x0 true false true w h h0 (by omega) (by omega) rfl k1 k2 k3).mono ?_
            rintro e w' ⟨he, hb⟩
            refine ⟨by rw [he]; exact pt_eq (by
              have : decodeL s.data.toList = (65533, 1) := by
                rw [hdec]
                repeat' split
                all_goals first | rfl | (exfalso; omega)
              unfold pointD; rw [this]; rfl), hb⟩
      · by_cases a3 : x0.toNat < 224
        · refine (point_b1 s x0 x1 w t1.1 h0 (i1 t1.1) (by omega) a3 k1).mono ?_
          rintro e w' ⟨he, hb⟩
          refine ⟨by rw [he]; exact pt_eq (by
            have : decodeL s.data.toList = ((((x0.toNat : Int) - 192) * 64 + (x1.toNat : Int) - 128).toNat, 2) := by
              rw [hdec]
              repeat' split
              all_goals first | (exfalso; omega) | (apply Prod.ext <;> simp only <;> omega)
            unfold pointD; rw [this, if_neg (by simp)]; apply Prod.ext <;> simp only <;> omega), hb⟩
        · by_cases a4 : x0.toNat < 240
          · by_cases q : (2048 : Int) ≤ ((((x0.toNat : Int) - 224) * 64 + (x1.toNat : Int) - 128) * 64 + (x2.toNat : Int) - 128)
            · cases hz : isZ ((((x0.toNat : Int) - 224) * 64 + (x1.toNat : Int) - 128) * 64 + (x2.toNat : Int) - 128)
              · refine (point_c_bad s x0 x1 x2 w t2.1 h0 (i1 (by omega)) (i2 t2.1) (by omega) a4 q k1 k2 (fun w => by have := isR_any ((((x0.toNat : Int) - 224) * 64 + (x1.toNat : Int) - 128) * 64 + (x2.toNat : Int) - 128) w; rwa [hz] at this)).mono ?_
                rintro e w' ⟨he, hb⟩
                refine ⟨by rw [he]; exact pt_eq (by
                  have hz' := not_isZ hz
                  have : decodeL s.data.toList = (65533, 1) := by
                    rw [hdec]
                    repeat' split
                    all_goals first | rfl | (exfalso; omega)
                  unfold pointD; rw [this]; rfl), hb⟩
              · refine (point_c_ok s x0 x1 x2 w t2.1 h0 (i1 (by omega)) (i2 t2.1) (by omega) a4 q k1 k2 (fun w => by have := isR_any ((((x0.toNat : Int) - 224) * 64 + (x1.toNat : Int) - 128) * 64 + (x2.toNat : Int) - 128) w; rwa [hz] at this)).mono ?_
                rintro e w' ⟨he, hb⟩
                refine ⟨by rw [he]; exact pt_eq (by
                  have hz' := is_isZ hz
                  have : decodeL s.data.toList = ((((((x0.toNat : Int) - 224) * 64 + (x1.toNat : Int) - 128) * 64 + (x2.toNat : Int) - 128)).toNat, 3) := by
                    rw [hdec]
                    repeat' split
                    all_goals first | (exfalso; omega) | (apply Prod.ext <;> simp only <;> omega)
                  unfold pointD; rw [this, if_neg (by simp)]; apply Prod.ext <;> simp only <;> omega), hb⟩
            · refine (point_c_low s x0 x1 x2 w t2.1 h0 (i1 (by omega)) (i2 t2.1) (by omega) a4 q k1 k2).mono ?_
              rintro e w' ⟨he, hb⟩
              refine ⟨by rw [he]; exact pt_eq (by
                have : decodeL s.data.toList = (65533, 1) := by
                  rw [hdec]
                  repeat' split
                  all_goals first | rfl | (exfalso; omega)
                unfold pointD; rw [this]; rfl), hb⟩
          · refine (point_d0 s x0 true true false w h h0 (by omega) (by omega) rfl k1 k2 k3).mono ?_
            rintro e w' ⟨he, hb⟩
            refine ⟨by rw [he]; exact pt_eq (by
              have : decodeL s.data.toList = (65533, 1) := by
                rw [hdec]
                repeat' split
                all_goals first | rfl | (exfalso; omega)
              unfold pointD; rw [this]; rfl), hb⟩
      · by_cases a3 : x0.toNat < 224
        · refine (point_b1 s x0 x1 w t1.1 h0 (i1 t1.1) (by omega) a3 k1).mono ?_
          rintro e w' ⟨he, hb⟩
          refine ⟨by rw [he]; exact pt_eq (by
            have : decodeL s.data.toList = ((((x0.toNat : Int) - 192) * 64 + (x1.toNat : Int) - 128).toNat, 2) := by
              rw [hdec]
              repeat' split
              all_goals first | (exfalso; omega) | (apply Prod.ext <;> simp only <;> omega)
            unfold pointD; rw [this, if_neg (by simp)]; apply Prod.ext <;> simp only <;> omega), hb⟩
        · by_cases a4 : x0.toNat < 240
          · by_cases q : (2048 : Int) ≤ ((((x0.toNat : Int) - 224) * 64 + (x1.toNat : Int) - 128) * 64 + (x2.toNat : Int) - 128)
            · cases hz : isZ ((((x0.toNat : Int) - 224) * 64 + (x1.toNat : Int) - 128) * 64 + (x2.toNat : Int) - 128)
              · refine (point_c_bad s x0 x1 x2 w t2.1 h0 (i1 (by omega)) (i2 t2.1) (by omega) a4 q k1 k2 (fun w => by have := isR_any ((((x0.toNat : Int) - 224) * 64 + (x1.toNat : Int) - 128) * 64 + (x2.toNat : Int) - 128) w; rwa [hz] at this)).mono ?_
                rintro e w' ⟨he, hb⟩
                refine ⟨by rw [he]; exact pt_eq (by
                  have hz' := not_isZ hz
                  have : decodeL s.data.toList = (65533, 1) := by
                    rw [hdec]
                    repeat' split
                    all_goals first | rfl | (exfalso; omega)
                  unfold pointD; rw [this]; rfl), hb⟩
              · refine (point_c_ok s x0 x1 x2 w t2.1 h0 (i1 (by omega)) (i2 t2.1) (by omega) a4 q k1 k2 (fun w => by have := isR_any ((((x0.toNat : Int) - 224) * 64 + (x1.toNat : Int) - 128) * 64 + (x2.toNat : Int) - 128) w; rwa [hz] at this)).mono ?_
                rintro e w' ⟨he, hb⟩
                refine ⟨by rw [he]; exact pt_eq (by
                  have hz' := is_isZ hz
                  have : decodeL s.data.toList = ((((((x0.toNat : Int) - 224) * 64 + (x1.toNat : Int) - 128) * 64 + (x2.toNat : Int) - 128)).toNat, 3) := by
                    rw [hdec]
                    repeat' split
                    all_goals first | (exfalso; omega) | (apply Prod.ext <;> simp only <;> omega)
                  unfold pointD; rw [this, if_neg (by simp)]; apply Prod.ext <;> simp only <;> omega), hb⟩
            · refine (point_c_low s x0 x1 x2 w t2.1 h0 (i1 (by omega)) (i2 t2.1) (by omega) a4 q k1 k2).mono ?_
              rintro e w' ⟨he, hb⟩
              refine ⟨by rw [he]; exact pt_eq (by
                have : decodeL s.data.toList = (65533, 1) := by
                  rw [hdec]
                  repeat' split
                  all_goals first | rfl | (exfalso; omega)
                unfold pointD; rw [this]; rfl), hb⟩
          · by_cases q : (65536 : Int) ≤ (((((x0.toNat : Int) - 240) * 64 + (x1.toNat : Int) - 128) * 64 + (x2.toNat : Int) - 128) * 64 + (x3.toNat : Int) - 128)
            · cases hz : isZ (((((x0.toNat : Int) - 240) * 64 + (x1.toNat : Int) - 128) * 64 + (x2.toNat : Int) - 128) * 64 + (x3.toNat : Int) - 128)
              · refine (point_d_bad s x0 x1 x2 x3 w t3.1 h0 (i1 (by omega)) (i2 (by omega)) (i3 t3.1) (by omega) (by omega) q k1 k2 k3 (fun w => by have := isR_any (((((x0.toNat : Int) - 240) * 64 + (x1.toNat : Int) - 128) * 64 + (x2.toNat : Int) - 128) * 64 + (x3.toNat : Int) - 128) w; rwa [hz] at this)).mono ?_
                rintro e w' ⟨he, hb⟩
                refine ⟨by rw [he]; exact pt_eq (by
                  have hz' := not_isZ hz
                  have : decodeL s.data.toList = (65533, 1) := by
                    rw [hdec]
                    repeat' split
                    all_goals first | rfl | (exfalso; omega)
                  unfold pointD; rw [this]; rfl), hb⟩
              · refine (point_d_ok s x0 x1 x2 x3 w t3.1 h0 (i1 (by omega)) (i2 (by omega)) (i3 t3.1) (by omega) (by omega) q k1 k2 k3 (fun w => by have := isR_any (((((x0.toNat : Int) - 240) * 64 + (x1.toNat : Int) - 128) * 64 + (x2.toNat : Int) - 128) * 64 + (x3.toNat : Int) - 128) w; rwa [hz] at this)).mono ?_
                rintro e w' ⟨he, hb⟩
                refine ⟨by rw [he]; exact pt_eq (by
                  have hz' := is_isZ hz
                  have : decodeL s.data.toList = (((((((x0.toNat : Int) - 240) * 64 + (x1.toNat : Int) - 128) * 64 + (x2.toNat : Int) - 128) * 64 + (x3.toNat : Int) - 128)).toNat, 4) := by
                    rw [hdec]
                    repeat' split
                    all_goals first | (exfalso; omega) | (apply Prod.ext <;> simp only <;> omega)
                  unfold pointD; rw [this, if_neg (by simp)]; apply Prod.ext <;> simp only <;> omega), hb⟩
            · refine (point_d_low s x0 x1 x2 x3 w t3.1 h0 (i1 (by omega)) (i2 (by omega)) (i3 t3.1) (by omega) (by omega) q k1 k2 k3).mono ?_
              rintro e w' ⟨he, hb⟩
              refine ⟨by rw [he]; exact pt_eq (by
                have : decodeL s.data.toList = (65533, 1) := by
                  rw [hdec]
                  repeat' split
                  all_goals first | rfl | (exfalso; omega)
                unfold pointD; rw [this]; rfl), hb⟩
end Go.Proofs.YtjajeijeoohpoaaDoor
