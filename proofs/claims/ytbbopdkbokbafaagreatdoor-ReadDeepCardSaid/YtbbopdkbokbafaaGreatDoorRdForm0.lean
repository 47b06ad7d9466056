/- What form calls at which first character: the map of readers. -/
import Derived.Test.YtbbopdkbokbafaaGreatDoorRdGo
namespace Go.Proofs.YtbbopdkbokbafaaGreatDoor
open Go.RowKit Go.Lib
/-- The reader of a first character, if there is one. -/
def readerOf (c : Int) : Option FuncId :=
  if c = 40 then some 157
  else if c = 91 then some 158
  else if c = 39 then some 159
  else if c = 96 then some 160
  else if c = 44 then some 161
  else if c = 35 then some 162
  else if c = 34 then some 163
  else if c = 63 then some 164
  else if c = 41 ∨ c = 93 ∨ c = -1 then some 165
  else none
theorem find_reader (c : Int) : ∃ o : Option (Nat × Value), Instr.findNow (.int .i64) (.int .i64 c) readersEs.toList 0 = some o ∧ o.map (·.2) = (readerOf c).map fun f => .func (.func f) #[] #[] := by
  by_cases h40 : c = 40
  · subst h40; exact ⟨_, rfl, rfl⟩
  by_cases h91 : c = 91
  · subst h91; exact ⟨_, rfl, rfl⟩
  by_cases h39 : c = 39
  · subst h39; exact ⟨_, rfl, rfl⟩
  by_cases h96 : c = 96
  · subst h96; exact ⟨_, rfl, rfl⟩
  by_cases h44 : c = 44
  · subst h44; exact ⟨_, rfl, rfl⟩
  by_cases h35 : c = 35
  · subst h35; exact ⟨_, rfl, rfl⟩
  by_cases h34 : c = 34
  · subst h34; exact ⟨_, rfl, rfl⟩
  by_cases h63 : c = 63
  · subst h63; exact ⟨_, rfl, rfl⟩
  by_cases h41 : c = 41
  · subst h41; exact ⟨_, rfl, rfl⟩
  by_cases h93 : c = 93
  · subst h93; exact ⟨_, rfl, rfl⟩
  by_cases hm1 : c = -1
  · subst hm1; exact ⟨_, rfl, rfl⟩
  have e40 : (c == 40) = false := by simpa using h40
  have e91 : (c == 91) = false := by simpa using h91
  have e39 : (c == 39) = false := by simpa using h39
  have e96 : (c == 96) = false := by simpa using h96
  have e44 : (c == 44) = false := by simpa using h44
  have e35 : (c == 35) = false := by simpa using h35
  have e34 : (c == 34) = false := by simpa using h34
  have e63 : (c == 63) = false := by simpa using h63
  have e41 : (c == 41) = false := by simpa using h41
  have e93 : (c == 93) = false := by simpa using h93
  have em1 : (c == -1) = false := by simpa using hm1
  refine ⟨none, ?_, ?_⟩
  · simp only [Instr.findNow, Instr.sameNow, readersEs, if_true, e40, e91, e39, e96, e44, e35, e34, e63, e41, e93, em1]
  · simp [readerOf, h40, h91, h39, h96, h44, h35, h34, h63, h41, h93, hm1]
theorem look_reader (rb : Nat) (w : World) (c : Int) (hb : w.heap[rb]? = some (.map readersEs 11)) :
    (Instr.lookup 89 (.map (some rb)) (.int .i64 c) true).run Tryz.prog w = .ok (.tuple #[match readerOf c with | some f => .func (.func f) #[] #[] | none => .nilFunc, .bool (readerOf c).isSome]) w := by
  obtain ⟨o, h1, h2⟩ := find_reader c
  have hck : (Instr.checkKey readersEs.isEmpty 10000 3 (.int .i64 c)).run Tryz.prog w = .ok () w :=
     MapKept.run_checkKey Tryz.underlying3 (by simp [MapKept.IsKey]) _ 9999
  have hfk : (Instr.findKey 3 (.int .i64 c) readersEs.toList).run Tryz.prog w = .ok o w := by
    simp [Instr.findKey, run_underlying Tryz.underlying3, h1, Result.andThen]
  cases hr : readerOf c with
  | none =>
    rw [hr] at h2
    have : o = none := by cases o with | none => rfl | some x => simp at h2
    subst this
    simp [Instr.lookup, run_underlying Tryz.underlying89, MapKept.run_getObj_map hb, hck, hfk, Result.andThen, Tryz.zeroValue176]
  | some f =>
    rw [hr] at h2
    obtain ⟨x, rfl, hx⟩ : ∃ x, o = some x ∧ x.2 = .func (.func f) #[] #[] := by
      cases o with
      | none => simp at h2
      | some x => exact ⟨x, rfl, by simpa using h2⟩
    obtain ⟨a, b⟩ := x
    simp only at hx
    subst hx
    simp [Instr.lookup, run_underlying Tryz.underlying89, MapKept.run_getObj_map hb, hck, hfk, Result.andThen]
theorem below_drewN (w : World) (n : Nat) : Below w.heap.size w (w.drewN n) := ⟨rfl, rfl, rfl, Nat.le_refl _, fun _ _ => rfl⟩
section
variable {w0 w : World} {r : Rd} {F : Nat → Nat} {s : Rs} {o : Out Wd}
set_option maxHeartbeats 1000000 in
theorem form_read (h : RdAt w0 w r F s) (f : FuncId) (hr : readerOf (ch r.L (skipTo r.L s.pos)) = some f) (hent : ∀ args w, (callFunc f args).run Tryz.prog w = .ok (.enter f args) w) (ho : o ≠ .lost)
    (cF : ∀ W, RdAt w0 W r F { s with pos := skipTo r.L s.pos } → Calls Tryz.prog f #[rp r] W fun e w' => Does w0 W r F o e w') :
    Calls Tryz.prog 67 #[rp r] w fun e w' => Does w0 w r F o e w' := by
  have CF := Lib.hid cF
  clear cF
  have H := Lib.hid h
  have cM := more_any (h.junk (wz_below w))
  clear h
  go_enter Tryz.func67, Tryz.ntmps67
  go_wp2_with fail
  refine cM.mono ?_
  rintro e W ⟨rfl, hm⟩
  have HM := Lib.hid hm
  go_wp2_with fail
  have cP := fun k => peek_any (hm.rd.junk (below_drewN _ k))
  have c5 : W.cell? ⟨r.pb, 5, none⟩ = some (.map (some r.rb)) := cell_at hm.rd.own
  have hl := fun k => look_reader r.rb (W.drewN k) (ch r.L (skipTo r.L s.pos)) hm.rd.fix.map
  rw [hr] at hl
  have CP := Lib.hid cP
  clear cP hm cM
  simp only at CP
  go_quiet ((go_at_call 112; exact Calls.quiet_of_same (CP.out _)))
  have HM2 := Lib.hid (HM.out.junk (below_drewN _ nq))
  clear CP hl c5 HM
  go_wp2_with fail
  refine (CF.out _ HM2.out.rd).mono ?_
  intro e W3 hD
  cases o with
  | lost => exact absurd rfl ho
  | ok x s' =>
    obtain ⟨rfl, hw3⟩ := hD
    have HW3 := Lib.hid (HM2.out.after hw3)
    have k0 := HW3.out.place H.out (wz_at w)
    have d0 : W3.cell? ⟨w.heap.size, 0, none⟩ = some (.int .i64 0) := cell_at k0
    have d1 : W3.cell? ⟨w.heap.size, 1, none⟩ = some (.int .i64 0) := cell_at k0
    have e0 : W3.frozen? ⟨w.heap.size, 0, none⟩ = false := frozen_at k0
    have e1 : W3.frozen? ⟨w.heap.size, 1, none⟩ = false := frozen_at k0
    clear k0 hw3
    go_wp2
    refine bodyPost_ret (v := wv x) ?_ rfl ⟨rfl, HW3.out.fill H.out _ _⟩
    simp [results, Tryz.results67, go_sem, d0, d1]
  | bad er a s' =>
    obtain ⟨rfl, hw3⟩ := hD
    have HW3 := Lib.hid (HM2.out.after_bad hw3)
    clear hw3
    go_wp2
    exact ⟨rfl, rfl, HW3.out.wrap⟩
set_option maxHeartbeats 1000000 in
theorem form_token (h : RdAt w0 w r F s) (hr : readerOf (ch r.L (skipTo r.L s.pos)) = none) (ho : o ≠ .lost)
    (cF : ∀ W, RdAt w0 W r F { s with pos := skipTo r.L s.pos } → Calls Tryz.prog 114 #[rp r] W fun e w' => Does w0 W r F o e w') :
    Calls Tryz.prog 67 #[rp r] w fun e w' => Does w0 w r F o e w' := by
  have CF := Lib.hid cF
  clear cF
  have H := Lib.hid h
  have cM := more_any (h.junk (wz_below w))
  clear h
  go_enter Tryz.func67, Tryz.ntmps67
  go_wp2_with fail
  refine cM.mono ?_
  rintro e W ⟨rfl, hm⟩
  have HM := Lib.hid hm
  go_wp2_with fail
  have cP := fun k => peek_any (hm.rd.junk (below_drewN _ k))
  have c5 : W.cell? ⟨r.pb, 5, none⟩ = some (.map (some r.rb)) := cell_at hm.rd.own
  have hl := fun k => look_reader r.rb (W.drewN k) (ch r.L (skipTo r.L s.pos)) hm.rd.fix.map
  rw [hr] at hl
  have CP := Lib.hid cP
  clear cP hm cM
  simp only at CP
  go_quiet ((go_at_call 112; exact Calls.quiet_of_same (CP.out _)))
  have HM2 := Lib.hid (HM.out.junk (below_drewN _ nq))
  clear CP hl c5 HM
  go_wp2_with fail
  refine (CF.out _ HM2.out.rd).mono ?_
  intro e W3 hD
  cases o with
  | lost => exact absurd rfl ho
  | ok x s' =>
    obtain ⟨rfl, hw3⟩ := hD
    have HW3 := Lib.hid (HM2.out.after hw3)
    have k0 := HW3.out.place H.out (wz_at w)
    have d0 : W3.cell? ⟨w.heap.size, 0, none⟩ = some (.int .i64 0) := cell_at k0
    have d1 : W3.cell? ⟨w.heap.size, 1, none⟩ = some (.int .i64 0) := cell_at k0
    have e0 : W3.frozen? ⟨w.heap.size, 0, none⟩ = false := frozen_at k0
    have e1 : W3.frozen? ⟨w.heap.size, 1, none⟩ = false := frozen_at k0
    clear k0 hw3
    go_wp2
    refine bodyPost_ret (v := wv x) ?_ rfl ⟨rfl, HW3.out.fill H.out _ _⟩
    simp [results, Tryz.results67, go_sem, d0, d1]
  | bad er a s' =>
    obtain ⟨rfl, hw3⟩ := hD
    have HW3 := Lib.hid (HM2.out.after_bad hw3)
    clear hw3
    go_wp2
    exact ⟨rfl, rfl, HW3.out.wrap⟩
end
end Go.Proofs.YtbbopdkbokbafaaGreatDoor
