/- The contracts of the reader's quoted, backquoted, comma, hash, stray. -/
import Derived.Test.YtbbopdkbokbafaaGreatDoorRdPre
namespace Go.Proofs.YtbbopdkbokbafaaGreatDoor
open Go.RowKit Go.Lib
section
variable {w0 w : World} {r : Rd} {F : Nat → Nat} {s : Rs} {o : Out Wd}
theorem stray_any (h : RdAt w0 w r F s) : Calls Tryz.prog 165 #[rp r] w fun e w' => Does w0 w r F (.bad 5 s.pos s) e w' := by
  have H := Lib.hid h
  have c3 : (wz w).cell? ⟨r.pb, 3, none⟩ = some (.int .i64 s.pos) := cell_at (h.junk (wz_below w)).own
  clear h
  go_enter Tryz.func165, Tryz.ntmps165
  go_wp2_with fail
  refine (malformed_any s.pos _).mono ?_
  rintro e W ⟨rfl, hb⟩
  have HB := Lib.hid hb
  clear hb
  go_wp2
  exact ⟨rfl, rfl, (WentR.of_below (H.out.junk (wz_below w)) HB.out).bad.wrap⟩
theorem quoted_any (h : RdAt w0 w r F s) (ho : o ≠ .lost) (cP : ∀ W, RdAt w0 W r F s → Calls Tryz.prog 220 #[rp r, .int .i64 1, .int .i64 2] W fun e w' => Does w0 W r F o e w') :
    Calls Tryz.prog 159 #[rp r] w fun e w' => Does w0 w r F o e w' := by
  have H := Lib.hid h
  have c := cP _ (h.junk (wz_below w))
  clear h cP
  go_enter Tryz.func159, Tryz.ntmps159
  go_wp2_with fail
  refine c.mono ?_
  intro e W3 hD
  cases o with
  | lost => exact absurd rfl ho
  | ok x s' =>
    obtain ⟨rfl, hw3⟩ := hD
    have k0 := hw3.place H.out (wz_at w)
    have d0 : W3.cell? ⟨w.heap.size, 0, none⟩ = some (.int .i64 0) := cell_at k0
    have d1 : W3.cell? ⟨w.heap.size, 1, none⟩ = some (.int .i64 0) := cell_at k0
    have e0 : W3.frozen? ⟨w.heap.size, 0, none⟩ = false := frozen_at k0
    have e1 : W3.frozen? ⟨w.heap.size, 1, none⟩ = false := frozen_at k0
    have HW3 := Lib.hid hw3
    clear k0 hw3
    go_wp2
    refine bodyPost_ret (v := wv x) ?_ rfl ⟨rfl, HW3.out.fill H.out _ _⟩
    simp [results, Tryz.results159, go_sem, d0, d1]
  | bad er a s' =>
    obtain ⟨rfl, hw3⟩ := hD
    have HW3 := Lib.hid hw3
    clear hw3
    go_wp2
    exact ⟨rfl, rfl, HW3.out.wrap⟩
theorem backquoted_any (h : RdAt w0 w r F s) (ho : o ≠ .lost) (cP : ∀ W, RdAt w0 W r F s → Calls Tryz.prog 220 #[rp r, .int .i64 1, .int .i64 4] W fun e w' => Does w0 W r F o e w') :
    Calls Tryz.prog 160 #[rp r] w fun e w' => Does w0 w r F o e w' := by
  have H := Lib.hid h
  have c := cP _ (h.junk (wz_below w))
  clear h cP
  go_enter Tryz.func160, Tryz.ntmps160
  go_wp2_with fail
  refine c.mono ?_
  intro e W3 hD
  cases o with
  | lost => exact absurd rfl ho
  | ok x s' =>
    obtain ⟨rfl, hw3⟩ := hD
    have k0 := hw3.place H.out (wz_at w)
    have d0 : W3.cell? ⟨w.heap.size, 0, none⟩ = some (.int .i64 0) := cell_at k0
    have d1 : W3.cell? ⟨w.heap.size, 1, none⟩ = some (.int .i64 0) := cell_at k0
    have e0 : W3.frozen? ⟨w.heap.size, 0, none⟩ = false := frozen_at k0
    have e1 : W3.frozen? ⟨w.heap.size, 1, none⟩ = false := frozen_at k0
    have HW3 := Lib.hid hw3
    clear k0 hw3
    go_wp2
    refine bodyPost_ret (v := wv x) ?_ rfl ⟨rfl, HW3.out.fill H.out _ _⟩
    simp [results, Tryz.results160, go_sem, d0, d1]
  | bad er a s' =>
    obtain ⟨rfl, hw3⟩ := hD
    have HW3 := Lib.hid hw3
    clear hw3
    go_wp2
    exact ⟨rfl, rfl, HW3.out.wrap⟩
theorem comma_splice (h : RdAt w0 w r F s) (ho : o ≠ .lost) (h64 : ch r.L (s.pos + 1) = 64) (cP : ∀ W, RdAt w0 W r F s → Calls Tryz.prog 220 #[rp r, .int .i64 2, .int .i64 6] W fun e w' => Does w0 W r F o e w') :
    Calls Tryz.prog 161 #[rp r] w fun e w' => Does w0 w r F o e w' := by
  have H := Lib.hid h
  have c := cP _ (h.junk (wz_below w))
  have c3 : (wz w).cell? ⟨r.pb, 3, none⟩ = some (.int .i64 s.pos) := cell_at (h.junk (wz_below w)).own
  have cC := char_any (h.junk (wz_below w)) (s.pos + 1) ((s.pos : Int) + 1) (by simp)
  have hl : s.pos ≤ 100000 := by have := h.pos; have := h.fix.len; omega
  rw [h64] at cC
  clear h cP
  go_enter Tryz.func161, Tryz.ntmps161
  go_wp2_with fail
  refine cC.mono ?_
  rintro e w' ⟨rfl, rfl⟩
  go_wp2_with fail
  refine c.mono ?_
  intro e W3 hD
  cases o with
  | lost => exact absurd rfl ho
  | ok x s' =>
    obtain ⟨rfl, hw3⟩ := hD
    have k0 := hw3.place H.out (wz_at w)
    have d0 : W3.cell? ⟨w.heap.size, 0, none⟩ = some (.int .i64 0) := cell_at k0
    have d1 : W3.cell? ⟨w.heap.size, 1, none⟩ = some (.int .i64 0) := cell_at k0
    have e0 : W3.frozen? ⟨w.heap.size, 0, none⟩ = false := frozen_at k0
    have e1 : W3.frozen? ⟨w.heap.size, 1, none⟩ = false := frozen_at k0
    have HW3 := Lib.hid hw3
    clear k0 hw3
    go_wp2
    refine bodyPost_ret (v := wv x) ?_ rfl ⟨rfl, HW3.out.fill H.out _ _⟩
    simp [results, Tryz.results161, go_sem, d0, d1]
  | bad er a s' =>
    obtain ⟨rfl, hw3⟩ := hD
    have HW3 := Lib.hid hw3
    clear hw3
    go_wp2
    exact ⟨rfl, rfl, HW3.out.wrap⟩
theorem comma_plain (h : RdAt w0 w r F s) (ho : o ≠ .lost) (h64 : ch r.L (s.pos + 1) ≠ 64) (cP : ∀ W, RdAt w0 W r F s → Calls Tryz.prog 220 #[rp r, .int .i64 1, .int .i64 5] W fun e w' => Does w0 W r F o e w') :
    Calls Tryz.prog 161 #[rp r] w fun e w' => Does w0 w r F o e w' := by
  have H := Lib.hid h
  have c := cP _ (h.junk (wz_below w))
  have c3 : (wz w).cell? ⟨r.pb, 3, none⟩ = some (.int .i64 s.pos) := cell_at (h.junk (wz_below w)).own
  have cC := char_any (h.junk (wz_below w)) (s.pos + 1) ((s.pos : Int) + 1) (by simp)
  have hl : s.pos ≤ 100000 := by have := h.pos; have := h.fix.len; omega
  have h64b : (ch r.L (s.pos + 1) == 64) = false := by simpa using h64
  generalize ch r.L (s.pos + 1) = c1 at *
  clear h cP
  go_enter Tryz.func161, Tryz.ntmps161
  go_wp2_with fail
  refine cC.mono ?_
  rintro e w' ⟨rfl, rfl⟩
  go_wp2_with fail
  refine c.mono ?_
  intro e W3 hD
  cases o with
  | lost => exact absurd rfl ho
  | ok x s' =>
    obtain ⟨rfl, hw3⟩ := hD
    have k0 := hw3.place H.out (wz_at w)
    have d0 : W3.cell? ⟨w.heap.size, 0, none⟩ = some (.int .i64 0) := cell_at k0
    have d1 : W3.cell? ⟨w.heap.size, 1, none⟩ = some (.int .i64 0) := cell_at k0
    have e0 : W3.frozen? ⟨w.heap.size, 0, none⟩ = false := frozen_at k0
    have e1 : W3.frozen? ⟨w.heap.size, 1, none⟩ = false := frozen_at k0
    have HW3 := Lib.hid hw3
    clear k0 hw3
    go_wp2
    refine bodyPost_ret (v := wv x) ?_ rfl ⟨rfl, HW3.out.fill H.out _ _⟩
    simp [results, Tryz.results161, go_sem, d0, d1]
  | bad er a s' =>
    obtain ⟨rfl, hw3⟩ := hD
    have HW3 := Lib.hid hw3
    clear hw3
    go_wp2
    exact ⟨rfl, rfl, HW3.out.wrap⟩
theorem hash_fun (h : RdAt w0 w r F s) (ho : o ≠ .lost) (h39 : ch r.L (s.pos + 1) = 39) (cP : ∀ W, RdAt w0 W r F s → Calls Tryz.prog 220 #[rp r, .int .i64 2, .int .i64 3] W fun e w' => Does w0 W r F o e w') :
    Calls Tryz.prog 162 #[rp r] w fun e w' => Does w0 w r F o e w' := by
  have H := Lib.hid h
  have c := cP _ (h.junk (wz_below w))
  have c3 : (wz w).cell? ⟨r.pb, 3, none⟩ = some (.int .i64 s.pos) := cell_at (h.junk (wz_below w)).own
  have cC := char_any (h.junk (wz_below w)) (s.pos + 1) ((s.pos : Int) + 1) (by simp)
  have hl : s.pos ≤ 100000 := by have := h.pos; have := h.fix.len; omega
  rw [h39] at cC
  clear h cP
  go_enter Tryz.func162, Tryz.ntmps162
  go_wp2_with fail
  refine cC.mono ?_
  rintro e w' ⟨rfl, rfl⟩
  go_wp2_with fail
  refine c.mono ?_
  intro e W3 hD
  cases o with
  | lost => exact absurd rfl ho
  | ok x s' =>
    obtain ⟨rfl, hw3⟩ := hD
    have k0 := hw3.place H.out (wz_at w)
    have d0 : W3.cell? ⟨w.heap.size, 0, none⟩ = some (.int .i64 0) := cell_at k0
    have d1 : W3.cell? ⟨w.heap.size, 1, none⟩ = some (.int .i64 0) := cell_at k0
    have e0 : W3.frozen? ⟨w.heap.size, 0, none⟩ = false := frozen_at k0
    have e1 : W3.frozen? ⟨w.heap.size, 1, none⟩ = false := frozen_at k0
    have HW3 := Lib.hid hw3
    clear k0 hw3
    go_wp2
    refine bodyPost_ret (v := wv x) ?_ rfl ⟨rfl, HW3.out.fill H.out _ _⟩
    simp [results, Tryz.results162, go_sem, d0, d1]
  | bad er a s' =>
    obtain ⟨rfl, hw3⟩ := hD
    have HW3 := Lib.hid hw3
    clear hw3
    go_wp2
    exact ⟨rfl, rfl, HW3.out.wrap⟩
set_option maxHeartbeats 1000000 in
theorem hash_empty (h : RdAt w0 w r F s) (hT : Tabs w0) (h35 : ch r.L (s.pos + 1) = 35) (he : ends (ch r.L (s.pos + 2)) = true) :
    Calls Tryz.prog 162 #[rp r] w fun e w' => Does w0 w r F (internO { s with pos := s.pos + 2 } [] s.pos) e w' := by
  have H := Lib.hid h
  have c3 : (wz w).cell? ⟨r.pb, 3, none⟩ = some (.int .i64 s.pos) := cell_at (h.junk (wz_below w)).own
  have f3 := (h.junk (wz_below w)).frozen 3
  have cC := char_any (h.junk (wz_below w)) (s.pos + 1) ((s.pos : Int) + 1) (by simp)
  have cC2 := char_any (h.junk (wz_below w)) (s.pos + 2) ((s.pos : Int) + 2) (by simp)
  have cE := fun W => ends_any (ch r.L (s.pos + 2)) W
  have hl : s.pos ≤ 100000 := by have := h.pos; have := h.fix.len; omega
  have hp : s.pos + 2 ≤ r.L.length := by have := ch_lt (L := r.L) (p := s.pos + 1) (by rw [h35]; decide); omega
  have hm := (h.junk (wz_below w)).mvPos (s.pos + 2) hp
  rw [show (((s.pos + 2 : Nat) : Int)) = (s.pos : Int) + 2 by simp] at hm
  have HM := Lib.hid hm
  have cI := rintern_any hm.rd hT [] (by simp) s.pos
  rw [show nameOf [] = ⟨#[]⟩ from rfl] at cI
  have ho := internO_some { s with pos := s.pos + 2 } [] s.pos
  generalize internO { s with pos := s.pos + 2 } [] s.pos = o at *
  rw [h35] at cC
  rw [he] at cE
  clear h hm h35 he
  generalize ch r.L (s.pos + 2) = c2 at *
  go_enter Tryz.func162, Tryz.ntmps162
  go_wp2_with fail
  refine cC.mono ?_
  rintro e w' ⟨rfl, rfl⟩
  go_wp2_with fail
  refine cC2.mono ?_
  rintro e w' ⟨rfl, rfl⟩
  go_wp2_with fail
  refine (cE _).mono ?_
  rintro e w' ⟨rfl, rfl⟩
  go_wp2_with fail
  refine cI.mono ?_
  intro e W3 hD0
  have hD := hD0
  clear hD0
  cases o with
  | lost => exact absurd rfl ho
  | ok x s' =>
    obtain ⟨rfl, hw3⟩ := hD
    have k0 := (HM.out.after hw3).place H.out (wz_at w)
    have d0 : W3.cell? ⟨w.heap.size, 0, none⟩ = some (.int .i64 0) := cell_at k0
    have d1 : W3.cell? ⟨w.heap.size, 1, none⟩ = some (.int .i64 0) := cell_at k0
    have e0 : W3.frozen? ⟨w.heap.size, 0, none⟩ = false := frozen_at k0
    have e1 : W3.frozen? ⟨w.heap.size, 1, none⟩ = false := frozen_at k0
    have HW3 := Lib.hid (HM.out.after hw3)
    clear k0 hw3
    go_wp2
    refine bodyPost_ret (v := wv x) ?_ rfl ⟨rfl, HW3.out.fill H.out _ _⟩
    simp [results, Tryz.results162, go_sem, d0, d1]
  | bad er a s' =>
    obtain ⟨rfl, hw3⟩ := hD
    have HW3 := Lib.hid (HM.out.after_bad hw3)
    clear hw3
    go_wp2
    exact ⟨rfl, rfl, HW3.out.wrap⟩
set_option maxHeartbeats 1000000 in
theorem hash_bad (h : RdAt w0 w r F s) (h39 : ch r.L (s.pos + 1) ≠ 39) (he : ¬ (ch r.L (s.pos + 1) = 35 ∧ ends (ch r.L (s.pos + 2)) = true)) :
    Calls Tryz.prog 162 #[rp r] w fun e w' => Does w0 w r F (.bad 5 s.pos s) e w' := by
  have H := Lib.hid h
  have c3 : (wz w).cell? ⟨r.pb, 3, none⟩ = some (.int .i64 s.pos) := cell_at (h.junk (wz_below w)).own
  have f3 := (h.junk (wz_below w)).frozen 3
  have cC := char_any (h.junk (wz_below w)) (s.pos + 1) ((s.pos : Int) + 1) (by simp)
  have cC2 := char_any (h.junk (wz_below w)) (s.pos + 2) ((s.pos : Int) + 2) (by simp)
  have cE := fun W => ends_any (ch r.L (s.pos + 2)) W
  have hl : s.pos ≤ 100000 := by have := h.pos; have := h.fix.len; omega
  have h39b : (ch r.L (s.pos + 1) == 39) = false := by simpa using h39
  by_cases h35 : ch r.L (s.pos + 1) = 35
  · have he2 : ends (ch r.L (s.pos + 2)) = false := by simpa [h35] using he
    rw [h35] at cC
    rw [he2] at cE
    clear h he h35 he2 h39 h39b
    generalize ch r.L (s.pos + 2) = c2 at *
    go_enter Tryz.func162, Tryz.ntmps162
    go_wp2_with fail
    refine cC.mono ?_
    rintro e w' ⟨rfl, rfl⟩
    go_wp2_with fail
    refine cC2.mono ?_
    rintro e w' ⟨rfl, rfl⟩
    go_wp2_with fail
    refine (cE _).mono ?_
    rintro e w' ⟨rfl, rfl⟩
    go_wp2_with fail
    refine (malformed_any s.pos _).mono ?_
    rintro e W ⟨rfl, hb⟩
    have HB := Lib.hid hb
    clear hb
    go_wp2
    exact ⟨rfl, rfl, (WentR.of_below (H.out.junk (wz_below w)) HB.out).bad.wrap⟩
  · have h35b : (ch r.L (s.pos + 1) == 35) = false := by simpa using h35
    clear h he h35 h39 cC2 cE
    generalize ch r.L (s.pos + 1) = c1 at *
    go_enter Tryz.func162, Tryz.ntmps162
    go_wp2_with fail
    refine cC.mono ?_
    rintro e w' ⟨rfl, rfl⟩
    go_wp2_with fail
    refine (malformed_any s.pos _).mono ?_
    rintro e W ⟨rfl, hb⟩
    have HB := Lib.hid hb
    clear hb
    go_wp2
    exact ⟨rfl, rfl, (WentR.of_below (H.out.junk (wz_below w)) HB.out).bad.wrap⟩
end
end Go.Proofs.YtbbopdkbokbafaaGreatDoor
