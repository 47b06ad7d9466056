/- VarsDeep: the walk. -/
import Derived.Test.YtgkblfegjmeolaaVaLives
import Derived.Test.YtgkblfegjmeolaaVaDeepSpec
namespace Go.Proofs.Ytgkblfegjmeolaa
open Go.RowKit Go.Lib Go.Shelf
theorem dc_pos {b : Nat} (h : 0 < b) : dc b = ((0, (b : Int) - 1), true) := by
  obtain ⟨j, rfl⟩ : ∃ j, b = j + 1 := ⟨b - 1, by omega⟩
  show ((0, (j : Int)), true) = _
  rw [show ((j + 1 : Nat) : Int) - 1 = (j : Int) by omega]
theorem undone_len (n : Nat) (hn : 2 ≤ n) (i k : Nat) (hk : k ≤ i) : ((dp n i).unbind k).binds.length = k := by
  show ((dp n i).binds.take k).length = k
  rw [List.length_take, dp_len n hn]
  omega
set_option maxRecDepth 100000 in
set_option maxHeartbeats 1000000 in
theorem deep_any (n depth : Int) (w : World) : Calls Try.prog 7 #[.int .i64 n, .int .i64 depth] w fun e w' => e = .returned (.bool true) ∧ Below w.heap.size w w' := by
  obtain ⟨q0, q1⟩ := pickZ_in n 16382 (by decide)
  obtain ⟨a, ha⟩ : ∃ a : Nat, 2 + pickZ n 16382 = (a : Int) := ⟨(2 + pickZ n 16382).toNat, by omega⟩
  have ha2 : 2 ≤ a := by omega
  have ha3 : a < 16384 := by omega
  go_enter Try.func7, Try.ntmps7
  go_wp2_with fail
  refine (lives_any w).mono ?_
  rintro e W0 ⟨rfl, hb0⟩
  have H0 := Lib.hid hb0
  clear hb0
  go_wp2_with fail
  refine (pick_any n 16382 W0 (by decide) (by decide)).mono ?_
  rintro e W1 ⟨rfl, rfl⟩
  go_wp2_with fail
  refine (new_any W1).mono ?_
  rintro e W2 ⟨vb, G2, rfl, h2⟩
  have H2 := Lib.hid h2
  clear h2
  go_wp2_with fail
  obtain ⟨r0, r1⟩ := pickZ_in depth 2001 (by decide)
  obtain ⟨b, hb⟩ : ∃ b : Nat, pickZ depth 2001 = (b : Int) := ⟨(pickZ depth 2001).toNat, by omega⟩
  have hb1 : b ≤ 2000 := by omega
  have HN := Lib.hid (And.intro ha2 (And.intro ha3 (And.intro ha (And.intro hb hb1))))
  clear ha2 ha3 ha hb hb1 q0 q1 r0 r1
  go_loopw [6] (fun i wr => ∃ (k : Nat) (G : Nat → Nat), i = .int .i64 k ∧ k ≤ 2000 ∧ Hid (VK W1 wr vb G (dp a k) [])) (fun i _ => 2000 - (RowKit.intOf i).toNat)
  case atStart => exact ⟨0, _, rfl, by decide, H2⟩
  case round =>
    obtain ⟨k, G, rfl, hk, HV⟩ := hrel
    by_cases hlt : (k : Int) < 2000
    · have HX := Lib.hid (show k < 2000 by omega)
      clear hk
      go_wp2_with fail
      refine (int1_any k wr).mono ?_
      rintro e W4 ⟨rfl, hb⟩
      have H4 := Lib.hid (HV.out.junk hb)
      clear hb HV
      go_wp2_with fail
      have cB := bind_ok H4.out.vars a HN.out.2.1 (by rw [dp_cnt]; have h9 : vsN.cnt ≤ 100 := (by decide); have := HX.out; omega) (dp_const a HN.out.1 k) (0, (k : Int)) (by rw [dp_len a HN.out.1]; exact HX.out)
      rw [home_zero (dp_scope a k)] at cB
      refine cB.mono ?_
      rintro e W5 ⟨rfl, hw⟩
      obtain ⟨G5, h5⟩ := H4.out.went hw
      have H5 := Lib.hid (show VK W1 W5 vb G5 (dp a (k + 1)) [] from h5)
      clear hw h5 H4 cB
      go_wp2
      go_roundw
      case rel => exact ⟨k + 1, G5, by go_num, by have := HX.out; omega, H5⟩
      case measure => have := HX.out; simp [RowKit.intOf]; omega
    · obtain rfl : k = 2000 := by omega
      clear hk
      go_wp2_with fail
      have cP := pick_any depth 2001 wr (by decide) (by decide)
      rw [HN.out.2.2.2.1] at cP
      refine cP.mono ?_
      rintro e wr2 ⟨rfl, rfl⟩
      clear cP
      go_wp2_with fail
      refine (int1_any (-1) wr2).mono ?_
      rintro e W4 ⟨rfl, hb⟩
      have H4 := Lib.hid (HV.out.junk hb)
      clear hb HV
      go_wp2_with fail
      refine (bind_full H4.out.vars a HN.out.2.1 (dp_const a HN.out.1 2000) (0, -1) (dp_len a HN.out.1 2000)).mono ?_
      rintro e W5 ⟨rfl, hb⟩
      have H5 := Lib.hid (H4.out.junk hb)
      clear hb H4
      go_wp2_with fail
      refine (unbind_ok H5.out.vars b (by rw [dp_len a HN.out.1]; exact HN.out.2.2.2.2) (by rw [dp_len a HN.out.1]; exact Nat.le_refl _)).mono ?_
      rintro e W6 ⟨rfl, hw⟩
      obtain ⟨G6, h6⟩ := H5.out.went hw
      have H6 := Lib.hid h6
      clear hw h6 H5
      go_wp2_with fail
      have cG := get_ok H6.out.vars a HN.out.2.1
      rw [home_zero ((unbind_scope _ b).trans (dp_scope a 2000)), dp_undone a HN.out.1 2000 b HN.out.2.2.2.2 (by decide)] at cG
      refine cG.mono ?_
      rintro e W7 ⟨rfl, hb⟩
      have H7 := Lib.hid (H6.out.junk hb)
      clear hb H6 cG
      go_wp2_with fail
      have h8 := H7.out.add (b := W7.heap.size) ((Below.refl _ _).alloc (Nat.le_refl _) (.cells #[.int .i64 (dc b).1.1, .int .i64 (dc b).1.2] 28)) (Nat.le_refl _) (alloc_at W7 _)
      generalize W7.alloc (.cells #[.int .i64 (dc b).1.1, .int .i64 (dc b).1.2] 28) = X8 at *
      generalize W7.heap.size = bx at *
      have hS : ∀ X, Below X8.heap.size X8 X → X.cell? ⟨bx, 0, none⟩ = some (.int .i64 (dc b).1.1) ∧ X.cell? ⟨bx, 1, none⟩ = some (.int .i64 (dc b).1.2) := fun X hX => by
        have e6 := ((h8.junk hX).has (bx, .cells #[.int .i64 (dc b).1.1, .int .i64 (dc b).1.2] 28) (.head _)).1
        exact ⟨(cell_at e6).trans rfl, (cell_at e6).trans rfl⟩
      have hl8 := undone_len a HN.out.1 2000 b HN.out.2.2.2.2
      have hD : ∀ X, Below X8.heap.size X8 X → Calls Try.prog 22 #[hptr vb] X fun e w' => e = .returned (.int .i64 b) ∧ w' = X := fun X hX => by
        have c := depth_ok (h8.junk hX).vars
        rwa [hl8] at c
      have hU : ∀ X (I : Int), ((b + 1 : Nat) : Int) = I → Below X8.heap.size X8 X → Calls Try.prog 19 #[hptr vb, .int .i64 I] X fun e w' => e = .returned (.int .i64 3) ∧ Below X.heap.size X w' := fun X I hI hX => by
        subst hI
        exact unbind_bad (h8.junk hX).vars (b + 1) (by rw [hl8]; omega)
      have HD := Lib.hid hD
      have HU := Lib.hid hU
      have H8 := Lib.hid h8
      clear hD hU h8 hl8 H7 H2
      have HK := Lib.hid (show Below X8.heap.size X8 X8.drew from (Below.refl _ _).drew)
      rcases Nat.eq_zero_or_pos b with rfl | hp
      · have hD0 : ∀ X, Below X8.heap.size X8 X → Calls Try.prog 22 #[hptr vb] X fun e w' => e = .returned (.int .i64 0) ∧ w' = X := HD.out
        have hU0 : ∀ X, Below X8.heap.size X8 X → Calls Try.prog 19 #[hptr vb, .int .i64 1] X fun e w' => e = .returned (.int .i64 3) ∧ Below X.heap.size X w' := fun X hX => HU.out X 1 rfl hX
        have HD2 := Lib.hid hD0
        have HU2 := Lib.hid hU0
        clear hD0 hU0 HD HU hS
        rw [show dc 0 = ((0, 0), false) from rfl, show ((0 : Nat) : Int) = 0 from rfl]
        dsimp only
        refine wp_region_held_drew (S := fun _ => True) (by kernel_rfl) trivial (fun hS => ?_)
        refine wpAnyH_take (i := 0) (oi := { dst := some 43, op := Op.move (Operand.tmp 8), type := 25, pos := "law.go:264", after := #[], guard := none }) (v := .int .i64 12) rfl (by kernel_rfl) (by kernel_rfl) (by kernel_rfl) (fun _ _ _ h => h) (Or.inl ⟨by rfl, by (intro w9 hSw; go_simp)⟩) trivial ?_
        try simp only [Act.put, List.setIfInBounds_toArray, List.set_cons_zero, List.set_cons_succ]
        refine wpAnyH_take (i := 1) (oi := { dst := some 44, op := Op.binOp BinOp.eql 25 (Operand.tmp 43) (Operand.const (Value.int IntKind.i64 12)) 25, type := 4, pos := "law.go:264", after := #[{ on := 0, ground := Ground.data }], guard := none }) (v := .bool true) rfl (by kernel_rfl) (by kernel_rfl) (by kernel_rfl) (fun _ _ _ h => h) (Or.inl ⟨by rfl, by (intro w9 hSw; go_simp)⟩) trivial ?_
        try simp only [Act.put, List.setIfInBounds_toArray, List.set_cons_zero, List.set_cons_succ]
        refine wpAnyH_take (i := 2) (oi := { dst := some 45, op := Op.move (Operand.tmp 44), type := 4, pos := "law.go:264", after := #[{ on := 1, ground := Ground.data }], guard := none }) (v := .bool true) rfl (by kernel_rfl) (by kernel_rfl) (by kernel_rfl) (fun _ _ _ h => h) (Or.inl ⟨by rfl, by (intro w9 hSw; go_simp)⟩) trivial ?_
        try simp only [Act.put, List.setIfInBounds_toArray, List.set_cons_zero, List.set_cons_succ]
        refine wpAnyH_take (i := 3) (oi := { dst := some 46, op := Op.move (Operand.tmp 9), type := 25, pos := "law.go:264", after := #[{ on := 2, ground := Ground.guard }], guard := some (2, true) }) (v := .int .i64 0) rfl (by kernel_rfl) (by kernel_rfl) (by kernel_rfl) (fun _ _ _ h => h) (Or.inl ⟨by rfl, by (intro w9 hSw; go_simp)⟩) trivial ?_
        try simp only [Act.put, List.setIfInBounds_toArray, List.set_cons_zero, List.set_cons_succ]
        refine wpAnyH_take (i := 4) (oi := { dst := some 47, op := Op.binOp BinOp.eql 25 (Operand.tmp 46) (Operand.const (Value.int IntKind.i64 0)) 25, type := 4, pos := "law.go:264", after := #[{ on := 3, ground := Ground.data }, { on := 2, ground := Ground.guard }], guard := some (2, true) }) (v := .bool true) rfl (by kernel_rfl) (by kernel_rfl) (by kernel_rfl) (fun _ _ _ h => h) (Or.inl ⟨by rfl, by (intro w9 hSw; go_simp)⟩) trivial ?_
        try simp only [Act.put, List.setIfInBounds_toArray, List.set_cons_zero, List.set_cons_succ]
        refine wpAnyH_take (i := 5) (oi := { dst := some 48, op := Op.pick (Operand.tmp 45) (Operand.tmp 47) (Operand.const (Value.bool false)), type := 4, pos := "law.go:264", after := #[{ on := 2, ground := Ground.data }, { on := 4, ground := Ground.data }], guard := none }) (v := .bool true) rfl (by kernel_rfl) (by kernel_rfl) (by kernel_rfl) (fun _ _ _ h => h) (Or.inl ⟨by rfl, by (intro w9 hSw; go_simp)⟩) trivial ?_
        try simp only [Act.put, List.setIfInBounds_toArray, List.set_cons_zero, List.set_cons_succ]
        refine wpAnyH_take (i := 6) (oi := { dst := some 49, op := Op.move (Operand.tmp 48), type := 4, pos := "law.go:264", after := #[{ on := 5, ground := Ground.data }, { on := 2, ground := Ground.chain }], guard := none }) (v := .bool true) rfl (by kernel_rfl) (by kernel_rfl) (by kernel_rfl) (fun _ _ _ h => h) (Or.inl ⟨by rfl, by (intro w9 hSw; go_simp)⟩) trivial ?_
        try simp only [Act.put, List.setIfInBounds_toArray, List.set_cons_zero, List.set_cons_succ]
        refine wpAnyH_take (i := 7) (oi := { dst := some 50, op := Op.move (Operand.tmp 5), type := 23, pos := "law.go:264", after := #[{ on := 6, ground := Ground.guard }], guard := some (6, true) }) (v := hptr vb) rfl (by kernel_rfl) (by kernel_rfl) (by kernel_rfl) (fun _ _ _ h => h) (Or.inl ⟨by rfl, by (intro w9 hSw; go_simp)⟩) trivial ?_
        try simp only [Act.put, List.setIfInBounds_toArray, List.set_cons_zero, List.set_cons_succ]
        refine wpAnyH_take (i := 9) (oi := { dst := some 52, op := Op.move (Operand.tmp 7), type := 3, pos := "law.go:264", after := #[{ on := 6, ground := Ground.guard }], guard := some (6, true) }) (v := .int .i64 0) rfl (by kernel_rfl) (by kernel_rfl) (by kernel_rfl) (fun _ _ _ h => h) (Or.inl ⟨by rfl, by (intro w9 hSw; go_simp)⟩) trivial ?_
        try simp only [Act.put, List.setIfInBounds_toArray, List.set_cons_zero, List.set_cons_succ]
        refine wpAnyH_ready (rs := [8]) (by kernel_rfl) (by simp) (AllReadyH.cons (i := 8) (o := { dst := some 51, op := Op.call { callee := Callee.value (Operand.func 22), args := #[Operand.tmp 50], argTypes := #[23] }, type := 3, pos := "law.go:264", after := #[{ on := 7, ground := Ground.data }, { on := 6, ground := Ground.chain }, { on := 6, ground := Ground.guard }], guard := some (6, true) }) rfl (fun K hK => ?_) AllReadyH.nil)
        rw [if_pos (by rfl)]
        go_simp
        refine (HD2.out _ HK.out).mono ?_
        rintro e wq ⟨rfl, rfl⟩
        refine hK.out _ _ trivial (fun hS => ?_)
        clear hK K
        try simp only [Act.put, List.setIfInBounds_toArray, List.set_cons_zero, List.set_cons_succ]
        refine wpAnyH_take (i := 10) (oi := { dst := some 53, op := Op.binOp BinOp.eql 3 (Operand.tmp 51) (Operand.tmp 52) 3, type := 4, pos := "law.go:264", after := #[{ on := 8, ground := Ground.data }, { on := 9, ground := Ground.data }, { on := 6, ground := Ground.guard }], guard := some (6, true) }) (v := .bool true) rfl (by kernel_rfl) (by kernel_rfl) (by kernel_rfl) (fun _ _ _ h => h) (Or.inl ⟨by rfl, by (intro w9 hSw; go_simp)⟩) trivial ?_
        try simp only [Act.put, List.setIfInBounds_toArray, List.set_cons_zero, List.set_cons_succ]
        refine wpAnyH_take (i := 11) (oi := { dst := some 54, op := Op.pick (Operand.tmp 49) (Operand.tmp 53) (Operand.const (Value.bool false)), type := 4, pos := "law.go:264", after := #[{ on := 6, ground := Ground.data }, { on := 10, ground := Ground.data }], guard := none }) (v := .bool true) rfl (by kernel_rfl) (by kernel_rfl) (by kernel_rfl) (fun _ _ _ h => h) (Or.inl ⟨by rfl, by (intro w9 hSw; go_simp)⟩) trivial ?_
        try simp only [Act.put, List.setIfInBounds_toArray, List.set_cons_zero, List.set_cons_succ]
        refine wpAnyH_take (i := 12) (oi := { dst := some 55, op := Op.move (Operand.tmp 54), type := 4, pos := "law.go:264", after := #[{ on := 11, ground := Ground.data }, { on := 8, ground := Ground.chain }], guard := none }) (v := .bool true) rfl (by kernel_rfl) (by kernel_rfl) (by kernel_rfl) (fun _ _ _ h => h) (Or.inl ⟨by rfl, by (intro w9 hSw; go_simp)⟩) trivial ?_
        try simp only [Act.put, List.setIfInBounds_toArray, List.set_cons_zero, List.set_cons_succ]
        refine wpAnyH_take (i := 13) (oi := { dst := some 56, op := Op.move (Operand.tmp 11), type := 4, pos := "law.go:264", after := #[{ on := 12, ground := Ground.guard }], guard := some (12, true) }) (v := .bool false) rfl (by kernel_rfl) (by kernel_rfl) (by kernel_rfl) (fun _ _ _ h => h) (Or.inl ⟨by rfl, by (intro w9 hSw; go_simp)⟩) trivial ?_
        try simp only [Act.put, List.setIfInBounds_toArray, List.set_cons_zero, List.set_cons_succ]
        refine wpAnyH_take (i := 14) (oi := { dst := some 57, op := Op.move (Operand.tmp 7), type := 3, pos := "law.go:264", after := #[{ on := 12, ground := Ground.guard }], guard := some (12, true) }) (v := .int .i64 0) rfl (by kernel_rfl) (by kernel_rfl) (by kernel_rfl) (fun _ _ _ h => h) (Or.inl ⟨by rfl, by (intro w9 hSw; go_simp)⟩) trivial ?_
        try simp only [Act.put, List.setIfInBounds_toArray, List.set_cons_zero, List.set_cons_succ]
        refine wpAnyH_take (i := 15) (oi := { dst := some 58, op := Op.binOp BinOp.gtr 3 (Operand.tmp 57) (Operand.const (Value.int IntKind.i64 0)) 3, type := 4, pos := "law.go:264", after := #[{ on := 14, ground := Ground.data }, { on := 12, ground := Ground.guard }], guard := some (12, true) }) (v := .bool false) rfl (by kernel_rfl) (by kernel_rfl) (by kernel_rfl) (fun _ _ _ h => h) (Or.inl ⟨by rfl, by (intro w9 hSw; go_simp)⟩) trivial ?_
        try simp only [Act.put, List.setIfInBounds_toArray, List.set_cons_zero, List.set_cons_succ]
        refine wpAnyH_take (i := 16) (oi := { dst := some 59, op := Op.binOp BinOp.eql 4 (Operand.tmp 56) (Operand.tmp 58) 4, type := 4, pos := "law.go:264", after := #[{ on := 13, ground := Ground.data }, { on := 15, ground := Ground.data }, { on := 12, ground := Ground.guard }], guard := some (12, true) }) (v := .bool true) rfl (by kernel_rfl) (by kernel_rfl) (by kernel_rfl) (fun _ _ _ h => h) (Or.inl ⟨by rfl, by (intro w9 hSw; go_simp)⟩) trivial ?_
        try simp only [Act.put, List.setIfInBounds_toArray, List.set_cons_zero, List.set_cons_succ]
        refine wpAnyH_take (i := 17) (oi := { dst := some 60, op := Op.pick (Operand.tmp 55) (Operand.tmp 59) (Operand.const (Value.bool false)), type := 4, pos := "law.go:264", after := #[{ on := 12, ground := Ground.data }, { on := 16, ground := Ground.data }], guard := none }) (v := .bool true) rfl (by kernel_rfl) (by kernel_rfl) (by kernel_rfl) (fun _ _ _ h => h) (Or.inl ⟨by rfl, by (intro w9 hSw; go_simp)⟩) trivial ?_
        try simp only [Act.put, List.setIfInBounds_toArray, List.set_cons_zero, List.set_cons_succ]
        refine wpAnyH_take (i := 18) (oi := { dst := some 61, op := Op.move (Operand.tmp 60), type := 4, pos := "law.go:264", after := #[{ on := 17, ground := Ground.data }, { on := 12, ground := Ground.chain }], guard := none }) (v := .bool true) rfl (by kernel_rfl) (by kernel_rfl) (by kernel_rfl) (fun _ _ _ h => h) (Or.inl ⟨by rfl, by (intro w9 hSw; go_simp)⟩) trivial ?_
        try simp only [Act.put, List.setIfInBounds_toArray, List.set_cons_zero, List.set_cons_succ]
        refine wpAnyH_take (i := 19) (oi := { dst := some 62, op := Op.move (Operand.tmp 7), type := 3, pos := "law.go:264", after := #[{ on := 18, ground := Ground.guard }], guard := some (18, true) }) (v := .int .i64 0) rfl (by kernel_rfl) (by kernel_rfl) (by kernel_rfl) (fun _ _ _ h => h) (Or.inl ⟨by rfl, by (intro w9 hSw; go_simp)⟩) trivial ?_
        try simp only [Act.put, List.setIfInBounds_toArray, List.set_cons_zero, List.set_cons_succ]
        refine wpAnyH_take (i := 20) (oi := { dst := some 63, op := Op.binOp BinOp.eql 3 (Operand.tmp 62) (Operand.const (Value.int IntKind.i64 0)) 3, type := 4, pos := "law.go:264", after := #[{ on := 19, ground := Ground.data }, { on := 18, ground := Ground.guard }], guard := some (18, true) }) (v := .bool true) rfl (by kernel_rfl) (by kernel_rfl) (by kernel_rfl) (fun _ _ _ h => h) (Or.inl ⟨by rfl, by (intro w9 hSw; go_simp)⟩) trivial ?_
        try simp only [Act.put, List.setIfInBounds_toArray, List.set_cons_zero, List.set_cons_succ]
        refine wpAnyH_take (i := 21) (oi := { dst := some 64, op := Op.move (Operand.tmp 63), type := 4, pos := "law.go:264", after := #[{ on := 20, ground := Ground.data }, { on := 18, ground := Ground.chain }, { on := 18, ground := Ground.guard }], guard := some (18, true) }) (v := .bool true) rfl (by kernel_rfl) (by kernel_rfl) (by kernel_rfl) (fun _ _ _ h => h) (Or.inl ⟨by rfl, by (intro w9 hSw; go_simp)⟩) trivial ?_
        try simp only [Act.put, List.setIfInBounds_toArray, List.set_cons_zero, List.set_cons_succ]
        refine wpAnyH_take (i := 22) (oi := { dst := some 65, op := Op.load 28 (Operand.tmp 10), type := 28, pos := "law.go:264", after := #[{ on := 21, ground := Ground.guard }], guard := some (21, false) }) (v := undef) rfl (by kernel_rfl) (by kernel_rfl) (by kernel_rfl) (fun _ _ _ h => h) (Or.inr ⟨by rfl, rfl⟩) trivial ?_
        try simp only [Act.put, List.setIfInBounds_toArray, List.set_cons_zero, List.set_cons_succ]
        refine wpAnyH_take (i := 23) (oi := { dst := some 66, op := Op.move (Operand.tmp 7), type := 3, pos := "law.go:264", after := #[{ on := 21, ground := Ground.guard }], guard := some (21, false) }) (v := undef) rfl (by kernel_rfl) (by kernel_rfl) (by kernel_rfl) (fun _ _ _ h => h) (Or.inr ⟨by rfl, rfl⟩) trivial ?_
        try simp only [Act.put, List.setIfInBounds_toArray, List.set_cons_zero, List.set_cons_succ]
        refine wpAnyH_take (i := 24) (oi := { dst := some 67, op := Op.binOp BinOp.sub 3 (Operand.tmp 66) (Operand.const (Value.int IntKind.i64 1)) 3, type := 3, pos := "law.go:264", after := #[{ on := 23, ground := Ground.data }, { on := 21, ground := Ground.guard }], guard := some (21, false) }) (v := undef) rfl (by kernel_rfl) (by kernel_rfl) (by kernel_rfl) (fun _ _ _ h => h) (Or.inr ⟨by rfl, rfl⟩) trivial ?_
        try simp only [Act.put, List.setIfInBounds_toArray, List.set_cons_zero, List.set_cons_succ]
        refine wpAnyH_take (i := 25) (oi := { dst := some 68, op := Op.call { callee := Callee.value (Operand.func 11), args := #[Operand.tmp 67], argTypes := #[3] }, type := 28, pos := "law.go:264", after := #[{ on := 24, ground := Ground.data }, { on := 21, ground := Ground.chain }, { on := 21, ground := Ground.guard }], guard := some (21, false) }) (v := undef) rfl (by kernel_rfl) (by kernel_rfl) (by kernel_rfl) (fun _ _ _ h => h) (Or.inr ⟨by rfl, rfl⟩) trivial ?_
        try simp only [Act.put, List.setIfInBounds_toArray, List.set_cons_zero, List.set_cons_succ]
        refine wpAnyH_take (i := 26) (oi := { dst := some 69, op := Op.binOp BinOp.eql 28 (Operand.tmp 65) (Operand.tmp 68) 28, type := 4, pos := "law.go:264", after := #[{ on := 22, ground := Ground.data }, { on := 25, ground := Ground.data }, { on := 21, ground := Ground.guard }], guard := some (21, false) }) (v := undef) rfl (by kernel_rfl) (by kernel_rfl) (by kernel_rfl) (fun _ _ _ h => h) (Or.inr ⟨by rfl, rfl⟩) trivial ?_
        try simp only [Act.put, List.setIfInBounds_toArray, List.set_cons_zero, List.set_cons_succ]
        refine wpAnyH_take (i := 27) (oi := { dst := some 70, op := Op.pick (Operand.tmp 64) (Operand.const (Value.bool true)) (Operand.tmp 69), type := 4, pos := "law.go:264", after := #[{ on := 21, ground := Ground.data }, { on := 26, ground := Ground.data }, { on := 18, ground := Ground.guard }], guard := some (18, true) }) (v := .bool true) rfl (by kernel_rfl) (by kernel_rfl) (by kernel_rfl) (fun _ _ _ h => h) (Or.inl ⟨by rfl, by (intro w9 hSw; go_simp)⟩) trivial ?_
        try simp only [Act.put, List.setIfInBounds_toArray, List.set_cons_zero, List.set_cons_succ]
        refine wpAnyH_take (i := 28) (oi := { dst := some 71, op := Op.pick (Operand.tmp 61) (Operand.tmp 70) (Operand.const (Value.bool false)), type := 4, pos := "law.go:264", after := #[{ on := 18, ground := Ground.data }, { on := 27, ground := Ground.data }], guard := none }) (v := .bool true) rfl (by kernel_rfl) (by kernel_rfl) (by kernel_rfl) (fun _ _ _ h => h) (Or.inl ⟨by rfl, by (intro w9 hSw; go_simp)⟩) trivial ?_
        try simp only [Act.put, List.setIfInBounds_toArray, List.set_cons_zero, List.set_cons_succ]
        refine wpAnyH_take (i := 29) (oi := { dst := some 72, op := Op.move (Operand.tmp 71), type := 4, pos := "law.go:264", after := #[{ on := 28, ground := Ground.data }, { on := 25, ground := Ground.chain }], guard := none }) (v := .bool true) rfl (by kernel_rfl) (by kernel_rfl) (by kernel_rfl) (fun _ _ _ h => h) (Or.inl ⟨by rfl, by (intro w9 hSw; go_simp)⟩) trivial ?_
        try simp only [Act.put, List.setIfInBounds_toArray, List.set_cons_zero, List.set_cons_succ]
        refine wpAnyH_take (i := 30) (oi := { dst := some 73, op := Op.move (Operand.tmp 5), type := 23, pos := "law.go:264", after := #[{ on := 29, ground := Ground.guard }], guard := some (29, true) }) (v := hptr vb) rfl (by kernel_rfl) (by kernel_rfl) (by kernel_rfl) (fun _ _ _ h => h) (Or.inl ⟨by rfl, by (intro w9 hSw; go_simp)⟩) trivial ?_
        try simp only [Act.put, List.setIfInBounds_toArray, List.set_cons_zero, List.set_cons_succ]
        refine wpAnyH_take (i := 31) (oi := { dst := some 74, op := Op.move (Operand.tmp 7), type := 3, pos := "law.go:264", after := #[{ on := 29, ground := Ground.guard }], guard := some (29, true) }) (v := .int .i64 0) rfl (by kernel_rfl) (by kernel_rfl) (by kernel_rfl) (fun _ _ _ h => h) (Or.inl ⟨by rfl, by (intro w9 hSw; go_simp)⟩) trivial ?_
        try simp only [Act.put, List.setIfInBounds_toArray, List.set_cons_zero, List.set_cons_succ]
        refine wpAnyH_take (i := 32) (oi := { dst := some 75, op := Op.binOp BinOp.add 3 (Operand.tmp 74) (Operand.const (Value.int IntKind.i64 1)) 3, type := 3, pos := "law.go:264", after := #[{ on := 31, ground := Ground.data }, { on := 29, ground := Ground.guard }], guard := some (29, true) }) (v := .int .i64 1) rfl (by kernel_rfl) (by kernel_rfl) (by kernel_rfl) (fun _ _ _ h => h) (Or.inl ⟨by rfl, by (intro w9 hSw; go_simp; try exact IntWalk.i64_in _ (by decide))⟩) trivial ?_
        try simp only [Act.put, List.setIfInBounds_toArray, List.set_cons_zero, List.set_cons_succ]
        refine wpAnyH_ready (rs := [33]) (by kernel_rfl) (by simp) (AllReadyH.cons (i := 33) (o := { dst := some 76, op := Op.call { callee := Callee.value (Operand.func 19), args := #[Operand.tmp 73, Operand.tmp 75], argTypes := #[23, 3] }, type := 25, pos := "law.go:264", after := #[{ on := 30, ground := Ground.data }, { on := 32, ground := Ground.data }, { on := 29, ground := Ground.chain }, { on := 29, ground := Ground.guard }], guard := some (29, true) }) rfl (fun K hK => ?_) AllReadyH.nil)
        rw [if_pos (by rfl)]
        go_simp
        refine (HU2.out _ HK.out).mono ?_
        rintro e wq ⟨rfl, hb2⟩
        have HK2 := Lib.hid (HK.out.trans (hb2.mono HK.out.size))
        clear HK hb2
        refine hK.out _ _ trivial (fun hS => ?_)
        clear hK K
        try simp only [Act.put, List.setIfInBounds_toArray, List.set_cons_zero, List.set_cons_succ]
        refine wpAnyH_take (i := 34) (oi := { dst := some 77, op := Op.binOp BinOp.eql 25 (Operand.tmp 76) (Operand.const (Value.int IntKind.i64 3)) 25, type := 4, pos := "law.go:264", after := #[{ on := 33, ground := Ground.data }, { on := 29, ground := Ground.guard }], guard := some (29, true) }) (v := .bool true) rfl (by kernel_rfl) (by kernel_rfl) (by kernel_rfl) (fun _ _ _ h => h) (Or.inl ⟨by rfl, by (intro w9 hSw; go_simp)⟩) trivial ?_
        try simp only [Act.put, List.setIfInBounds_toArray, List.set_cons_zero, List.set_cons_succ]
        refine wpAnyH_take (i := 35) (oi := { dst := some 78, op := Op.pick (Operand.tmp 72) (Operand.tmp 77) (Operand.const (Value.bool false)), type := 4, pos := "law.go:264", after := #[{ on := 29, ground := Ground.data }, { on := 34, ground := Ground.data }], guard := none }) (v := .bool true) rfl (by kernel_rfl) (by kernel_rfl) (by kernel_rfl) (fun _ _ _ h => h) (Or.inl ⟨by rfl, by (intro w9 hSw; go_simp)⟩) trivial ?_
        try simp only [Act.put, List.setIfInBounds_toArray, List.set_cons_zero, List.set_cons_succ]
        refine wpAnyH_take (i := 36) (oi := { dst := some 4, op := Op.assign (Operand.tmp 78), type := 4, pos := "law.go:264", after := _, guard := none }) (v := .bool true) rfl (by kernel_rfl) (by kernel_rfl) (by kernel_rfl) (fun _ _ _ h => h) (Or.inl ⟨by rfl, by (intro w9 hSw; go_simp)⟩) trivial ?_
        try simp only [Act.put, List.setIfInBounds_toArray, List.set_cons_zero, List.set_cons_succ]
        refine wpAnyH_done (by kernel_rfl) ?_ _
        go_wp2
        go_ret
        exact ⟨rfl, H0.out.trans (((H8.out.junk HK2.out).below).mono H0.out.size)⟩
      · obtain ⟨c, hc⟩ : ∃ c : Int, (b : Int) - 1 = c := ⟨_, rfl⟩
        have q0 : 0 ≤ c := by omega
        have q1 : c ≤ 2000 := by have := HN.out.2.2.2.2; omega
        rw [dc_pos hp, hc] at hS ⊢
        have hI : ∀ (X : World) (I : Int), I = c → Calls Try.prog 11 #[.int .i64 I] X fun e w' => e = .returned (wv (0, c)) ∧ Below X.heap.size X w' := fun X I h => by
          subst h
          exact int1_any _ X
        obtain ⟨u, hu⟩ : ∃ u : Wd, ((0 : Int), c) = u := ⟨_, rfl⟩
        have hS2 : ∀ X, Below X8.heap.size X8 X → X.cell? ⟨bx, 0, none⟩ = some (.int .i64 u.1) ∧ X.cell? ⟨bx, 1, none⟩ = some (.int .i64 u.2) := by
          subst hu
          exact hS
        rw [hu] at hI
        have HI := Lib.hid hI
        have u1 : (u.1 == u.1) = true := by simp
        have u2 : (u.2 == u.2) = true := by simp
        have HS := Lib.hid hS2
        clear hS hS2 hI hu
        have p1 : (0 : Int) < (b : Int) := by omega
        have p2 : (b : Int) ≤ 2000 := by have := HN.out.2.2.2.2; omega
        have p3 : ((b : Int) == 0) = false := by rw [beq_eq_false_iff_ne]; omega
        have p4 : decide ((0 : Int) < (b : Int)) = true := decide_eq_true p1
        have p5 : decide (0 < b) = true := decide_eq_true hp
        have p6 : ¬ b = 0 := by omega
        have p7 : ¬ (b : Int) = 0 := by omega
        dsimp only at *
        go_region_held3 (fun X => X.cell? ⟨bx, 0, none⟩ = some (.int .i64 u.1) ∧ X.cell? ⟨bx, 1, none⟩ = some (.int .i64 u.2))
          (first | with_reducible exact HS.out _ HK.out)
          (first
            | (go_at_call 11; (with_reducible refine (HI.out _ _ (by first | omega | (rw [IntWalk.i64_in _ (by omega)]))).mono ?_); rintro e wq ⟨rfl, hb2⟩; have HK2 := Lib.hid (HK.out.trans (hb2.mono HK.out.size)); clear HK hb2; have HK := HK2; clear HK2)
            | (go_at_call 22; (with_reducible refine (HD.out _ HK.out).mono ?_); rintro e wq ⟨rfl, rfl⟩)
            | (go_at_call 19; (with_reducible refine (HU.out _ _ (by first | omega | (rw [IntWalk.i64_in _ (by omega)]; omega) | (rw [IntWalk.i64_in _ (by omega)]; rfl)) HK.out).mono ?_); rintro e wq ⟨rfl, hb2⟩; have HK2 := Lib.hid (HK.out.trans (hb2.mono HK.out.size)); clear HK hb2; have HK := HK2; clear HK2))
        all_goals (go_wp2; go_ret; exact ⟨rfl, H0.out.trans (((H8.out.junk HK.out).below).mono H0.out.size)⟩)
end Go.Proofs.Ytgkblfegjmeolaa
