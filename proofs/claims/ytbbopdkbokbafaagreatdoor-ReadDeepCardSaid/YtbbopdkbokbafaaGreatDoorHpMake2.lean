import Derived.Test.YtbbopdkbokbafaaGreatDoorHpAdd4
import Derived.Laws.AppendOwnNone
import Derived.Shelf.Utf8.RuneCount
import Derived.Shelf.LaysM
import Derived.Shelf.Strconv.Clone
import Derived.Shelf.Unicode.ValidAny
import Derived.Test.YtbbopdkbokbafaaGreatDoorProg
import Derived.Lib.MapLaws
import Derived.Lib.ValidLaws
import Derived.Lib.RuneCount
import Derived.Lib.Strings
import Derived.WalkKit
import Derived.WalkSpells
import Derived.WalkLawsBesides
import Derived.RegionTactic
import Derived.Deep.QuietTactic
import Derived.BigQuiet
import Derived.Outline
import Derived.Lib.Hide
import Derived.Laws.RangeString
import Derived.Laws.RangeAny
import Derived.LoopTactic
/- The contracts of copyOf at words, bytes and ints: a new row with the same cells. -/
namespace Go.Proofs.YtbbopdkbokbafaaGreatDoor
open Go.RowKit Go.Lib
/-- A slice that reads as n elements, wherever it lies. -/
def Src (w : World) (size : Nat) (v : Value) (n : Nat) (xs : List Value) : Prop :=
  (v = .slice none 0 0 ∧ n = 0 ∧ xs = []) ∨ ∃ ad c, v = .slice (some ad) n c ∧ xs.length = n * size ∧ ∀ j u, xs[j]? = some u → w.cell? (ad.add j) = some u
theorem Src.slice {w : World} {size : Nat} {v : Value} {n : Nat} {xs : List Value} (h : Src w size v n xs) : ∃ a c, v = .slice a n c := by
  rcases h with ⟨rfl, rfl, _⟩ | ⟨ad, c, rfl, _⟩
  · exact ⟨none, 0, rfl⟩
  · exact ⟨_, c, rfl⟩
theorem Src.below {w w' : World} {size : Nat} {v : Value} {n : Nat} {xs : List Value} (h : Src w size v n xs) {B : Nat} (hb : Below B w w') (hv : ∀ k, v.ownBlock = some k → k < B) : Src w' size v n xs := by
  rcases h with h | ⟨ad, c, rfl, h2, h3⟩
  · exact .inl h
  · refine .inr ⟨ad, c, rfl, h2, fun j u hu => ?_⟩
    rw [hb.cell (by have := hv ad.block rfl; cases ad with | mk b o s => (by_cases hj : j = 0 <;> simpa [Addr.add, hj] using this))]
    exact h3 j u hu
theorem Src.of_own {w : World} {B e size : Nat} {v : Value} {n : Nat} {xs : List Value} (h : w.ownsRow B e size v n xs) : Src w size v n xs := by
  rcases h.2 with ⟨h1, h2⟩ | ⟨g, cap, cur, h1, h2⟩
  · refine .inl ⟨h1, h2, ?_⟩
    have := h.1
    rw [h2] at this
    simpa using this
  · exact .inr ⟨_, cap, h1, h.1, fun j u hu => World.ownsRow.cells h (g := g) (by rw [h1]; rfl) j u hu⟩
theorem info_word : (Tryz.prog.info? 28).map (fun i => (i.zero, i.size, i.bytes)) = some (some (.agg #[.int .i64 0, .int .i64 0]), 2, 16) := by kernel_rfl
theorem info_byte : (Tryz.prog.info? 5).map (fun i => (i.zero, i.size, i.bytes)) = some (some (.int .u8 0), 1, 1) := by kernel_rfl
theorem info_int : (Tryz.prog.info? 3).map (fun i => (i.zero, i.size, i.bytes)) = some (some (.int .i64 0), 1, 8) := by kernel_rfl
set_option maxHeartbeats 400000 in
theorem copy_word (v : Value) (n : Nat) (xs : List Value) (w : World) (h : Src w 2 v n xs) (h1 : ∀ u ∈ xs, u.oneCell' = true) (hn : n ≤ 70000) :
    Calls Tryz.prog 185 #[v] w fun e w' => ∃ v', e = .returned v' ∧ w'.ownsRow w.heap.size 28 2 v' n xs ∧ Below w.heap.size w w' := by
  obtain ⟨i0, hi, hz0, hz1, hz2⟩ := info_parts info_word
  rcases h with ⟨rfl, rfl, rfl⟩ | ⟨ad, c, rfl, hl, hc⟩
  · go_enter Tryz.func185, Tryz.ntmps185
    go_wp2_with (at_builtin; refine wpList_append_own_none rfl _ _ 36 rfl 0 28 i0 2 Tryz.underlying36 hi _ 0 [] rfl (World.ownsRow_nil _ _ _ _) rfl ?_)
    go_ret
    exact ⟨_, rfl, World.ownsRow_nil _ _ _ _, Below.refl _ _⟩
  · have HC := Lib.hid hc
    have HL := Lib.hid hl
    clear hc hl
    go_enter Tryz.func185, Tryz.ntmps185
    go_wp2_with (at_builtin; refine wpList_append_own _ rfl _ _ 36 rfl w.heap.size 28 i0 (.agg #[.int .i64 0, .int .i64 0]) 2 16 Tryz.underlying36 hi hz0 hz1 hz2 rfl (by decide) _ _ _ rfl (World.ownsRow_nil _ _ _ _) ad n c xs rfl HL.out HC.out h1 ?c3 ?c4 (Nat.le_refl _) ?_)
    case c3 => unfold maxLen; omega
    case c4 => omega
    intro v' w1 hown hgr _
    obtain ⟨av, cv, rfl⟩ : ∃ a cap, v' = .slice a n cap := by
      rcases hown.2 with ⟨e, e2⟩ | ⟨g, cap, cur, e, _⟩
      · exact ⟨none, 0, by rw [e, show n = 0 by omega]⟩
      · exact ⟨_, cap, by rw [e]⟩
    have HO := Lib.hid (And.intro hown hgr)
    clear hown hgr
    go_wp2
    go_ret
    obtain ⟨hown, hgr⟩ := HO.out
    exact ⟨_, rfl, by simpa using hown, (Below.refl _ _).grown hgr (Nat.le_refl _) (fun k hk => by cases hk)⟩
set_option maxHeartbeats 400000 in
theorem copy_byte (v : Value) (n : Nat) (xs : List Value) (w : World) (h : Src w 1 v n xs) (h1 : ∀ u ∈ xs, u.oneCell' = true) (hn : n ≤ 70000) :
    Calls Tryz.prog 236 #[v] w fun e w' => ∃ v', e = .returned v' ∧ w'.ownsRow w.heap.size 5 1 v' n xs ∧ Below w.heap.size w w' := by
  obtain ⟨i0, hi, hz0, hz1, hz2⟩ := info_parts info_byte
  rcases h with ⟨rfl, rfl, rfl⟩ | ⟨ad, c, rfl, hl, hc⟩
  · go_enter Tryz.func236, Tryz.ntmps236
    go_wp2_with (at_builtin; refine wpList_append_own_none rfl _ _ 103 rfl 0 5 i0 1 Tryz.underlying103 hi _ 0 [] rfl (World.ownsRow_nil _ _ _ _) rfl ?_)
    go_ret
    exact ⟨_, rfl, World.ownsRow_nil _ _ _ _, Below.refl _ _⟩
  · have HC := Lib.hid hc
    have HL := Lib.hid hl
    clear hc hl
    go_enter Tryz.func236, Tryz.ntmps236
    go_wp2_with (at_builtin; refine wpList_append_own _ rfl _ _ 103 rfl w.heap.size 5 i0 (.int .u8 0) 1 1 Tryz.underlying103 hi hz0 hz1 hz2 rfl (by decide) _ _ _ rfl (World.ownsRow_nil _ _ _ _) ad n c xs rfl HL.out HC.out h1 ?c3 ?c4 (Nat.le_refl _) ?_)
    case c3 => unfold maxLen; omega
    case c4 => omega
    intro v' w1 hown hgr _
    obtain ⟨av, cv, rfl⟩ : ∃ a cap, v' = .slice a n cap := by
      rcases hown.2 with ⟨e, e2⟩ | ⟨g, cap, cur, e, _⟩
      · exact ⟨none, 0, by rw [e, show n = 0 by omega]⟩
      · exact ⟨_, cap, by rw [e]⟩
    have HO := Lib.hid (And.intro hown hgr)
    clear hown hgr
    go_wp2
    go_ret
    obtain ⟨hown, hgr⟩ := HO.out
    exact ⟨_, rfl, by simpa using hown, (Below.refl _ _).grown hgr (Nat.le_refl _) (fun k hk => by cases hk)⟩
end Go.Proofs.YtbbopdkbokbafaaGreatDoor

/- The contract of copyOfCode: the same code, its bytes and constants in new rows. -/
namespace Go.Proofs.YtbbopdkbokbafaaGreatDoor
open Go.RowKit Go.Lib
theorem bcell {W w1 : World} (hb : Below W.heap.size W w1) : (∀ b o, b < W.heap.size → w1.cell? ⟨b, o, none⟩ = W.cell? ⟨b, o, none⟩) ∧ (∀ b o, b < W.heap.size → w1.frozen? ⟨b, o, none⟩ = W.frozen? ⟨b, o, none⟩) :=
  ⟨fun b o h => hb.cell (p := ⟨b, o, none⟩) h, fun b o h => hb.frozen (p := ⟨b, o, none⟩) h⟩
theorem own_slice {w : World} {B e size : Nat} {v : Value} {n : Nat} {xs : List Value} (h : w.ownsRow B e size v n xs) : ∃ a c, v = .slice a n c := by
  rcases h.2 with ⟨h1, h2⟩ | ⟨g, cap, cur, h1, _⟩
  · exact ⟨none, 0, by rw [h1, h2]⟩
  · exact ⟨_, cap, h1⟩
theorem own_keep {w w' : World} {B e size : Nat} {v : Value} {n : Nat} {xs : List Value} (h : w.ownsRow B e size v n xs) (hb : Below w.heap.size w w') : w'.ownsRow B e size v n xs := by
  obtain ⟨h1, h2⟩ := h
  refine ⟨h1, ?_⟩
  rcases h2 with h2 | ⟨g, cap, cur, hv, hg, hh, hr⟩
  · exact .inl h2
  · exact .inr ⟨g, cap, cur, hv, hg, (hb.block g (lt_at hh)).trans hh, hr⟩
theorem own_base {w : World} {B B' e size : Nat} {v : Value} {n : Nat} {xs : List Value} (h : w.ownsRow B e size v n xs) (hB : B' ≤ B) : w.ownsRow B' e size v n xs := by
  obtain ⟨h1, h2⟩ := h
  refine ⟨h1, ?_⟩
  rcases h2 with h2 | ⟨g, cap, cur, hv, hg, hr⟩
  · exact .inl h2
  · exact .inr ⟨g, cap, cur, hv, by omega, hr⟩
set_option maxHeartbeats 1000000 in
theorem copy_code (le mo de : Int) (ab ac : Option Addr) (nb nc cb cc : Nat) (bs cs : List Value) (w : World)
    (cB : ∀ W, Below w.heap.size w W → Calls Tryz.prog 236 #[.slice ab nb cb] W fun e w' => ∃ v', e = .returned v' ∧ w'.ownsRow W.heap.size 5 1 v' nb bs ∧ Below W.heap.size W w')
    (cC : ∀ W, Below w.heap.size w W → Calls Tryz.prog 185 #[.slice ac nc cc] W fun e w' => ∃ v', e = .returned v' ∧ w'.ownsRow W.heap.size 28 2 v' nc cs ∧ Below W.heap.size W w') :
    Calls Tryz.prog 186 #[.agg #[.int .i64 le, .int .i64 mo, .int .i64 de, .slice ab nb cb, .slice ac nc cc]] w fun e w' => ∃ vb vc, e = .returned (.agg #[.int .i64 le, .int .i64 mo, .int .i64 de, vb, vc]) ∧
      w'.ownsRow w.heap.size 5 1 vb nb bs ∧ w'.ownsRow w.heap.size 28 2 vc nc cs ∧ Below w.heap.size w w' := by
  have CB := Lib.hid cB
  have CC := Lib.hid cC
  clear cB cC
  go_enter Tryz.func186, Tryz.ntmps186
  go_wp2
  go_region_with (first
    | (go_at_call 236; refine (CB.out _ ?_).mono ?_; exact (((Below.refl _ _).alloc (Nat.le_refl _) _).alloc (by simp) _).drew; rintro e w1 ⟨vb, rfl, ho1, hb1⟩; obtain ⟨a1, c1, rfl⟩ := own_slice ho1; have HO1 := Lib.hid ho1; clear ho1; have HB1 := Lib.hid hb1; have hz1 : w.heap.size + 1 < w1.heap.size := Nat.lt_of_lt_of_le (by simp [World.drew]) hb1.size; have hz0 : w.heap.size < w1.heap.size := Nat.lt_of_succ_lt hz1; obtain ⟨hc1, hf1⟩ := bcell hb1; clear hb1)
    | (go_at_call 185; refine (CC.out _ ?_).mono ?_; exact ((((Below.refl _ _).alloc (Nat.le_refl _) _).alloc (by simp) _).drew.trans (HB1.out.mono (by simp; omega))); rintro e w2 ⟨vc, rfl, ho2, hb2⟩; obtain ⟨a2, c2, rfl⟩ := own_slice ho2; have HO2 := Lib.hid ho2; clear ho2; have HB2 := Lib.hid hb2; obtain ⟨hc2, hf2⟩ := bcell hb2; clear hb2))
  all_goals
    have o1 := own_base (B' := w.heap.size + 2) (own_keep HO1.out HB2.out) (by simp [World.drew])
    have o2 := own_base (B' := w.heap.size + 2) HO2.out (by omega)
    have hbw : Below w.heap.size w w2 := ((((Below.refl _ _).alloc (Nat.le_refl _) _).alloc (by simp) _).drew.trans (HB1.out.mono (by simp [World.drew]; omega))).trans (HB2.out.mono (by omega))
    have k0 : w2.heap[w.heap.size]? = some (.cells #[.int .i64 le, .int .i64 mo, .int .i64 de, .slice ab nb cb, .slice ac nc cc] 105 (0, 0)) :=
      (HB2.out.block _ hz0).trans ((HB1.out.block _ (by simp [World.drew]; omega)).trans ((Below.heap_alloc _ _ _ (by simp)).trans (alloc_at w _)))
    have k1 : w2.heap[w.heap.size + 1]? = some (.cells #[.int .i64 0, .int .i64 0, .int .i64 0, .slice none 0 0, .slice none 0 0] 105 (0, 0)) :=
      (HB2.out.block _ hz1).trans ((HB1.out.block _ (by simp [World.drew])).trans (by
        have := alloc_at (w.alloc (.cells #[.int .i64 le, .int .i64 mo, .int .i64 de, .slice ab nb cb, .slice ac nc cc] 105)) (.cells #[.int .i64 0, .int .i64 0, .int .i64 0, .slice none 0 0, .slice none 0 0] 105)
        rw [show (w.alloc (.cells #[.int .i64 le, .int .i64 mo, .int .i64 de, .slice ab nb cb, .slice ac nc cc] 105)).heap.size = w.heap.size + 1 from by simp] at this
        exact this))
    have k2 := setCell_at (i := 4) (setCell_at (i := 3) k0 (.slice a1 nb c1)) (.slice a2 nc c2)
    have k3 : ((w2.setCell ⟨w.heap.size, 3, none⟩ (.slice a1 nb c1)).setCell ⟨w.heap.size, 4, none⟩ (.slice a2 nc c2)).heap[w.heap.size + 1]? = _ := (setCell_off _ (by simp)).trans ((setCell_off _ (by simp)).trans k1)
    have o3 := ownsRow_setCell_below (ownsRow_setCell_below o1 (a := ⟨w.heap.size, 3, none⟩) (by simp) (.slice a1 nb c1)) (a := ⟨w.heap.size, 4, none⟩) (by simp) (.slice a2 nc c2)
    have o4 := ownsRow_setCell_below (ownsRow_setCell_below o2 (a := ⟨w.heap.size, 3, none⟩) (by simp) (.slice a1 nb c1)) (a := ⟨w.heap.size, 4, none⟩) (by simp) (.slice a2 nc c2)
    have hb3 := (hbw.setCell (p := ⟨w.heap.size, 3, none⟩) (by simp) (.slice a1 nb c1)).setCell (p := ⟨w.heap.size, 4, none⟩) (by simp) (.slice a2 nc c2)
    generalize (w2.setCell ⟨w.heap.size, 3, none⟩ (.slice a1 nb c1)).setCell ⟨w.heap.size, 4, none⟩ (.slice a2 nc c2) = w3 at k2 k3 o3 o4 hb3 ⊢
    have d0 : w3.cell? ⟨w.heap.size, 0, none⟩ = some (.int .i64 le) := (cell_at k2).trans (by simp)
    have d1 : w3.cell? ⟨w.heap.size, 1, none⟩ = some (.int .i64 mo) := (cell_at k2).trans (by simp)
    have d2 : w3.cell? ⟨w.heap.size, 2, none⟩ = some (.int .i64 de) := (cell_at k2).trans (by simp)
    have d3 : w3.cell? ⟨w.heap.size, 3, none⟩ = some (.slice a1 nb c1) := (cell_at k2).trans (by simp)
    have d4 : w3.cell? ⟨w.heap.size, 4, none⟩ = some (.slice a2 nc c2) := (cell_at k2).trans (by simp)
    have e0 : w3.cell? ⟨w.heap.size + 1, 0, none⟩ = some (.int .i64 0) := cell_at k3
    have e1 : w3.cell? ⟨w.heap.size + 1, 1, none⟩ = some (.int .i64 0) := cell_at k3
    have e2 : w3.cell? ⟨w.heap.size + 1, 2, none⟩ = some (.int .i64 0) := cell_at k3
    have e3 : w3.cell? ⟨w.heap.size + 1, 3, none⟩ = some (.slice none 0 0) := cell_at k3
    have e4 : w3.cell? ⟨w.heap.size + 1, 4, none⟩ = some (.slice none 0 0) := cell_at k3
    have g0 : ∀ i, w3.frozen? ⟨w.heap.size + 1, i, none⟩ = false := fun i => frozen_at k3
    have HO := Lib.hid (And.intro o3 (And.intro o4 hb3))
    clear o1 o2 hbw HO1 HO2 HB1 HB2 CB CC k0 k1 k2 k3 o3 o4 hb3 hc1 hc2 hf1 hf2 hz0 hz1
    go_wp2
    refine bodyPost_ret (v := .agg #[.int .i64 le, .int .i64 mo, .int .i64 de, .slice a1 nb c1, .slice a2 nc c2]) ?_ rfl ?_
    · simp [results, Tryz.results186, go_sem, e0, e1, e2, e3, e4]
    refine ⟨_, _, rfl, ?_, ?_, ?_⟩
    · exact own_base (B := w.heap.size + 2) (by (repeat with_reducible refine ownsRow_setCell_below ?_ (by simp) _); exact HO.out.1) (by omega)
    · exact own_base (B := w.heap.size + 2) (by (repeat with_reducible refine ownsRow_setCell_below ?_ (by simp) _); exact HO.out.2.1) (by omega)
    · (repeat with_reducible refine Below.setCell ?_ (by simp) _); exact HO.out.2.2
end Go.Proofs.YtbbopdkbokbafaaGreatDoor

/- The library functions that package heap reaches, each by its contract in the library, at this program's numbers: ValidString, RuneCountInString, Clone. Conditions: as each contract says. -/
namespace Go.Proofs
open Go.Shelf
def Tryz.lays196_ren : Go.Shelf.Ren := ⟨fun | 196 => 143 | 259 => 199 | n => n, fun | 9 => 9 | 4 => 4 | 3 => 3 | 5 => 5 | 12 => 12 | 119 => 228 | 0 => 0 | 46 => 232 | 139 => 231 | 138 => 230 | 53 => 252 | n => n, fun | 3 => 0 | 4 => 1 | n => n⟩
theorem Tryz.lays196 : Go.Proofs.Lays.n196 Tryz.prog Tryz.lays196_ren := {
  mixed := by kernel_rfl
  f196 := Tryz.func143.trans (congrArg some (by kernel_rfl))
  f259 := Tryz.func199.trans (congrArg some (by kernel_rfl))
  t0 := Tryz.underlying0
  a0 := Tryz.isAgg0
  z0 := Tryz.sizeOf0
  v0 := Tryz.zeroValue0
  t3 := Tryz.underlying3
  a3 := Tryz.isAgg3
  z3 := Tryz.sizeOf3
  v3 := Tryz.zeroValue3
  t4 := Tryz.underlying4
  a4 := Tryz.isAgg4
  z4 := Tryz.sizeOf4
  v4 := Tryz.zeroValue4
  t5 := Tryz.underlying5
  a5 := Tryz.isAgg5
  z5 := Tryz.sizeOf5
  v5 := Tryz.zeroValue5
  t9 := Tryz.underlying9
  a9 := Tryz.isAgg9
  z9 := Tryz.sizeOf9
  v9 := Tryz.zeroValue9
  t12 := Tryz.underlying12
  a12 := Tryz.isAgg12
  z12 := Tryz.sizeOf12
  v12 := Tryz.zeroValue12
  t46 := Tryz.underlying232
  a46 := Tryz.isAgg232
  z46 := Tryz.sizeOf232
  v46 := Tryz.zeroValue232
  t53 := Tryz.underlying252
  a53 := Tryz.isAgg252
  z53 := Tryz.sizeOf252
  v53 := Tryz.zeroValue252
  t119 := Tryz.underlying228
  a119 := Tryz.isAgg228
  z119 := Tryz.sizeOf228
  t138 := Tryz.underlying230
  a138 := Tryz.isAgg230
  z138 := Tryz.sizeOf230
  v138 := Tryz.zeroValue230
  t139 := Tryz.underlying231
  a139 := Tryz.isAgg231
  z139 := Tryz.sizeOf231
  v139 := Tryz.zeroValue231
  g3 := by kernel_rfl
  g4 := by kernel_rfl }
def Tryz.lays195_ren : Go.Shelf.Ren := ⟨fun | 195 => 144 | n => n, fun | 9 => 9 | 3 => 3 | 0 => 0 | 4 => 4 | n => n, fun | n => n⟩
theorem Tryz.lays195 : Go.Proofs.Lays.n195 Tryz.prog Tryz.lays195_ren := {
  mixed := by kernel_rfl
  f195 := Tryz.func144.trans (congrArg some (by kernel_rfl))
  t0 := Tryz.underlying0
  a0 := Tryz.isAgg0
  z0 := Tryz.sizeOf0
  v0 := Tryz.zeroValue0
  t3 := Tryz.underlying3
  a3 := Tryz.isAgg3
  z3 := Tryz.sizeOf3
  v3 := Tryz.zeroValue3
  t4 := Tryz.underlying4
  a4 := Tryz.isAgg4
  z4 := Tryz.sizeOf4
  v4 := Tryz.zeroValue4
  t9 := Tryz.underlying9
  a9 := Tryz.isAgg9
  z9 := Tryz.sizeOf9
  v9 := Tryz.zeroValue9 }
open Go.RowKit in
theorem Tryz.utf8_RuneCountInString (s : ByteArray) (w : World) (hs : s.size < 9223372036854775807) :
    Calls Tryz.prog 144 #[.string s] w fun e w' => e = .returned (.int .i64 (Lib.runeCount s)) ∧ ∃ pos, w' = w.iter s pos := Any.utf8_RuneCountInString Tryz.lays195 s w hs
def Tryz.laysM316_ren : Go.Shelf.Ren := ⟨fun | 316 => 142 | n => n, fun | 9 => 9 | 3 => 3 | 4 => 4 | 37 => 103 | 0 => 0 | 127 => 197 | 5 => 5 | n => n, fun | n => n⟩
theorem Tryz.laysM316 : Go.Proofs.LaysM.n316 Tryz.prog Tryz.laysM316_ren := {
  mixed := by kernel_rfl
  f316 := Tryz.func142.trans (congrArg some (by kernel_rfl))
  t0 := Tryz.underlying0
  a0 := Tryz.isAgg0
  z0 := Tryz.sizeOf0
  v0 := Tryz.zeroValue0
  t3 := Tryz.underlying3
  a3 := Tryz.isAgg3
  z3 := Tryz.sizeOf3
  v3 := Tryz.zeroValue3
  t4 := Tryz.underlying4
  a4 := Tryz.isAgg4
  z4 := Tryz.sizeOf4
  v4 := Tryz.zeroValue4
  t9 := Tryz.underlying9
  a9 := Tryz.isAgg9
  z9 := Tryz.sizeOf9
  v9 := Tryz.zeroValue9
  t37 := Tryz.underlying103
  a37 := Tryz.isAgg103
  z37 := Tryz.sizeOf103
  v37 := Tryz.zeroValue103
  t127 := Tryz.underlying197
  a127 := Tryz.isAgg197
  z127 := Tryz.sizeOf197
  v127 := Tryz.zeroValue197
  t5 := Tryz.underlying5
  a5 := Tryz.isAgg5
  z5 := Tryz.sizeOf5
  v5 := Tryz.zeroValue5
  i0 := by kernel_rfl
  i3 := by kernel_rfl
  i4 := by kernel_rfl
  i5 := by kernel_rfl
  i9 := by kernel_rfl
  i37 := by kernel_rfl
  i127 := by kernel_rfl }
open Go.RowKit in
theorem Tryz.stringslite_Clone (s : ByteArray) (w : World) (hlim : s.size ≤ 281474976710656) :
    Calls Tryz.prog 142 #[.string s] w fun e w' => e = .returned (.string s) ∧ Below w.heap.size w w' := Any.stringslite_Clone Tryz.laysM316 s w hlim
end Go.Proofs

/- Plain laws on the characters of a list of bytes; of no program. -/
namespace Go.Proofs.YtbbopdkbokbafaaGreatDoor
open Go.Lib

/-- The characters of a list of bytes, as the decoder gives them. -/
def runesGo : Nat → List UInt8 → List Int
  | 0, _ => []
  | n + 1, l => if l = [] then [] else ((decodeL l).1 : Int) :: runesGo n (l.drop (decodeL l).2)
def runesD (l : List UInt8) : List Int := runesGo l.length l
theorem runesGo_fuel : ∀ (n : Nat) (l : List UInt8), l.length ≤ n → runesGo n l = runesGo l.length l
  | 0, l, h => by have : l = [] := List.length_eq_zero_iff.1 (by omega); subst this; rfl
  | n + 1, l, h => by
    by_cases hl : l = []
    · subst hl; rfl
    · have hp : 0 < l.length := List.length_pos_iff.2 hl
      have hw := decodeL_width l
      obtain ⟨m, hm⟩ : ∃ m, l.length = m + 1 := ⟨l.length - 1, by omega⟩
      rw [hm]
      simp only [runesGo, if_neg hl]
      have hd : (l.drop (decodeL l).2).length ≤ m := by rw [List.length_drop]; omega
      rw [runesGo_fuel n _ (by omega), runesGo_fuel m _ hd]
theorem runesD_nil : runesD [] = [] := rfl
theorem runesD_step (l : List UInt8) (hne : l ≠ []) : runesD l = ((decodeL l).1 : Int) :: runesD (l.drop (decodeL l).2) := by
  have hp : 0 < l.length := List.length_pos_iff.2 hne
  have hw := decodeL_width l
  obtain ⟨m, hm⟩ : ∃ m, l.length = m + 1 := ⟨l.length - 1, by omega⟩
  have hd : (l.drop (decodeL l).2).length ≤ m := by rw [List.length_drop]; omega
  unfold runesD
  rw [hm]
  simp only [runesGo, if_neg hne]
  rw [runesGo_fuel m _ hd]
theorem drop_ne {s : ByteArray} {pos : Nat} (h : pos < s.size) : s.data.toList.drop pos ≠ [] := by
  intro e
  have := congrArg List.length e
  simp at this
  omega
/-- The characters from a place on. -/
theorem runesD_at (s : ByteArray) (pos : Nat) (h : pos < s.size) : runesD (s.data.toList.drop pos) = ((Utf8.decode s pos).1 : Int) :: runesD (s.data.toList.drop (pos + (Utf8.decode s pos).2)) := by
  rw [runesD_step _ (drop_ne h), decodeL_drop, List.drop_drop]
theorem runesD_end (s : ByteArray) (pos : Nat) (h : ¬ pos < s.size) : runesD (s.data.toList.drop pos) = [] := by
  rw [List.drop_of_length_le (by simp; omega)]
  rfl
theorem runeCountFrom_eq (s : ByteArray) : ∀ (f pos : Nat), s.size - pos ≤ f → runeCountFrom s f pos = (runesD (s.data.toList.drop pos)).length
  | 0, pos, h => by rw [runesD_end s pos (by omega)]; rfl
  | f + 1, pos, h => by
    unfold runeCountFrom
    by_cases hp : pos < s.size
    · have hw := decode_width_pos s pos hp
      rw [if_pos hp, runesD_at s pos hp, List.length_cons, runeCountFrom_eq s f _ (by omega)]
      omega
    · rw [if_neg hp, runesD_end s pos hp]; rfl
theorem runeCount_eq (s : ByteArray) : runeCount s = (runesD s.data.toList).length := by
  have := runeCountFrom_eq s s.size 0 (by omega)
  simpa [runeCount] using this
end Go.Proofs.YtbbopdkbokbafaaGreatDoor

/- The contracts of runes.Valid and Len for every string. Condition: unicode/utf8's two tables hold what the program's text lays. -/
namespace Go.Proofs.YtbbopdkbokbafaaGreatDoor
open Go.RowKit Go.Lib Go.Shelf
def Tabs (w : World) : Prop := Lib.Utf8Tabs 0 1 w
theorem Tabs.below {B : Nat} {w w' : World} (h : Tabs w) (hb : Below B w w') (hB : 1 < B) : Tabs w' :=
  ⟨fun c hc => by rw [hb.cell (by simp; omega)]; exact h.1 c hc, fun i hi => ⟨by rw [hb.cell (by simpa using hB)]; exact (h.2 i hi).1, by rw [hb.cell (by simpa using hB)]; exact (h.2 i hi).2⟩⟩
theorem Tabs.size {w : World} (h : Tabs w) : 1 < w.heap.size := by
  have := World.block_lt_of_cell? _ _ (h.2 0 (by omega)).1
  simpa using this
theorem below_iter {B : Nat} {a w : World} {s : ByteArray} {pos : Nat} (h : Below B a w) (hB : B ≤ w.heap.size) : Below B a (w.iter s pos) := h.alloc hB _
set_option maxHeartbeats 400000 in
theorem rvalid_any (s : ByteArray) (w : World) (hs : s.size ≤ 9223372036854775807) (hT : Tabs w) :
    Calls Tryz.prog 99 #[.string s] w fun e w' => e = .returned (.bool (validD s.data.toList)) ∧ Below w.heap.size w w' := by
  have cV : Calls Tryz.prog 143 #[.string s] w _ := Any.utf8_ValidString Tryz.lays196 s w hs hT
  generalize validD s.data.toList = V at cV ⊢
  go_enter Tryz.func99, Tryz.ntmps99
  go_wp2_with (go_at_call 143; refine cV.mono ?_; rintro e w' ⟨rfl, hb⟩)
  go_ret
  exact ⟨rfl, hb⟩
/-- How many characters a string has, 0 if it is not valid. -/
def lenD (l : List UInt8) : Nat := if validD l then (runesD l).length else 0
set_option maxHeartbeats 400000 in
theorem rlen_any (s : ByteArray) (w : World) (hs : s.size < 9223372036854775807) (hT : Tabs w) :
    Calls Tryz.prog 100 #[.string s] w fun e w' => e = .returned (.int .i64 (lenD s.data.toList)) ∧ Below w.heap.size w w' := by
  have cV := rvalid_any s w (by omega) hT
  have cR := fun w => Tryz.utf8_RuneCountInString s w hs
  rw [runeCount_eq] at cR
  unfold lenD
  generalize (runesD s.data.toList).length = n at cR ⊢
  clear hs
  cases hv : validD s.data.toList
  · rw [hv] at cV
    have HV : Hid _ := Lib.hid hv
    clear hv
    go_enter Tryz.func100, Tryz.ntmps100
    go_wp2_with (go_at_call 99; ((with_reducible refine cV.mono ?_); rintro e w' ⟨rfl, hb⟩))
    go_ret
    exact ⟨rfl, hb⟩
  · rw [hv] at cV
    have HV : Hid _ := Lib.hid hv
    clear hv
    go_enter Tryz.func100, Tryz.ntmps100
    go_wp2_with (first | (go_at_call 99; ((with_reducible refine cV.mono ?_); rintro e w' ⟨rfl, hb⟩)) | (go_at_call 144; ((with_reducible refine (cR _).mono ?_); rintro e w' ⟨rfl, pos, rfl⟩)))
    go_ret
    exact ⟨rfl, below_iter hb hb.size⟩
end Go.Proofs.YtbbopdkbokbafaaGreatDoor

/- The walks of Cons, Vec, Text and Code, given what add does. -/
namespace Go.Proofs.YtbbopdkbokbafaaGreatDoor
open Go.RowKit Go.Lib
theorem Old.alloc1 {w W : World} (h : Old w W) (hs : w.heap.size ≤ W.heap.size) (o : Obj) : Old w (W.alloc o) ∧ w.heap.size ≤ (W.alloc o).heap.size := ⟨h.alloc hs o, by simp; omega⟩
theorem Old.below {w W W' : World} (h : Old w W) (hs : w.heap.size ≤ W.heap.size) (hb : Below W.heap.size W W') : Old w W' := fun k hk => (hb.block k (by omega)).trans (h k hk)
/-- valid on a heap that stands, in any world in which the blocks of w stand. -/
abbrev ValidIn (w : World) (hb : Nat) : Prop := ∀ W, Old w W → Calls Tryz.prog 68 #[hptr hb] W fun e w' => e = .returned (.bool true) ∧ w' = W
theorem HeapAt.valid {w : World} {hb : Nat} {G : Nat → Nat} {m : Hp} (h : HeapAt w hb G m) : ValidIn w hb := by
  obtain ⟨ok, new, lab, vo, vf, xs, h1, h2, h3, h4⟩ := h
  intro W hW
  exact valid_any hb m.lim W (by have := ok.lim1; omega) (cell_at ((hW hb (lt_at h1)).trans h1))
set_option maxHeartbeats 1000000 in
theorem cons_walk (hb : Nat) (er : Int) (a d r : Wd) (P : World → Prop) (w : World) (cV : ValidIn w hb)
    (cA : Calls Tryz.prog 101 #[hptr hb, .iface 93 (.pointer (some ⟨w.heap.size + 1 + 1 + 1, 0, none⟩))]
      ((((w.alloc (.cells #[.int .i64 a.1, .int .i64 a.2] 28)).alloc (.cells #[.int .i64 d.1, .int .i64 d.2] 28)).alloc (.cells #[.int .i64 0, .int .i64 0] 28)).alloc (.cells #[.int .i64 a.1, .int .i64 a.2, .int .i64 d.1, .int .i64 d.2] 99))
      fun e w' => e = .returned (.tuple #[wv r, .int .i64 er]) ∧ w'.heap[w.heap.size + 1 + 1]? = some (.cells #[.int .i64 0, .int .i64 0] 28 (0, 0)) ∧ P w') :
    Calls Tryz.prog 87 #[hptr hb, wv a, wv d] w fun e w' => e = .returned (.tuple #[wv r, .int .i64 er]) ∧
      ∃ w3, P w3 ∧ w' = (w3.setCell ⟨w.heap.size + 1 + 1, 0, none⟩ (.int .i64 r.1)).setCell ⟨w.heap.size + 1 + 1, 1, none⟩ (.int .i64 r.2) := by
  have CV := Lib.hid cV
  have CA := Lib.hid cA
  clear cV cA
  go_enter Tryz.func87, Tryz.ntmps87
  go_wp2_with (go_at_call 68; refine (CV.out _ ?_).mono ?_; exact (((Old.refl _).alloc (Nat.le_refl _) _).alloc (by simp) _).alloc (by simp; omega) _; rintro e w' ⟨rfl, rfl⟩)
  refine CA.out.mono ?_
  rintro e w3 ⟨rfl, h3, hP⟩
  have d0 : w3.cell? ⟨w.heap.size + 1 + 1, 0, none⟩ = some (.int .i64 0) := cell_at h3
  have d1 : w3.cell? ⟨w.heap.size + 1 + 1, 1, none⟩ = some (.int .i64 0) := cell_at h3
  have e0 : w3.frozen? ⟨w.heap.size + 1 + 1, 0, none⟩ = false := frozen_at h3
  have e1 : w3.frozen? ⟨w.heap.size + 1 + 1, 1, none⟩ = false := frozen_at h3
  have HP := Lib.hid hP
  clear hP h3 CA CV
  go_wp2
  refine bodyPost_ret (v := .tuple #[wv r, .int .i64 er]) ?_ rfl ⟨rfl, w3, HP.out, rfl⟩
  simp [results, Tryz.results87, go_sem, d0, d1]
set_option maxHeartbeats 1000000 in
theorem vec_walk (hb : Nat) (er : Int) (r : Wd) (al : Option Addr) (n cl : Nat) (xs : List Value) (P : World → Prop) (w : World) (hn : n ≤ 65536) (cV : ValidIn w hb)
    (cC : ∀ W, Below w.heap.size w W → Calls Tryz.prog 185 #[.slice al n cl] W fun e w' => ∃ v', e = .returned v' ∧ w'.ownsRow W.heap.size 28 2 v' n xs ∧ Below W.heap.size W w')
    (cA : ∀ W a c, Below w.heap.size w W → W.heap[w.heap.size]? = some (.cells #[.int .i64 0, .int .i64 0] 28 (0, 0)) → W.ownsRow (w.heap.size + 1) 28 2 (.slice a n c) n xs → w.heap.size + 1 ≤ W.heap.size →
      Calls Tryz.prog 101 #[hptr hb, .iface 206 (.pointer (some ⟨W.heap.size, 0, none⟩))] (W.alloc (.cells #[.slice a n c] 214))
      fun e w' => e = .returned (.tuple #[wv r, .int .i64 er]) ∧ w'.heap[w.heap.size]? = some (.cells #[.int .i64 0, .int .i64 0] 28 (0, 0)) ∧ P w') :
    Calls Tryz.prog 219 #[hptr hb, .slice al n cl] w fun e w' => e = .returned (.tuple #[wv r, .int .i64 er]) ∧
      ∃ w3, P w3 ∧ w' = (w3.setCell ⟨w.heap.size, 0, none⟩ (.int .i64 r.1)).setCell ⟨w.heap.size, 1, none⟩ (.int .i64 r.2) := by
  have CV := Lib.hid cV
  have CA := Lib.hid cA
  have CC := Lib.hid cC
  have hn1 : ¬ (65536 : Int) < n := by omega
  clear cV cA cC hn
  go_enter Tryz.func219, Tryz.ntmps219
  go_wp2_with (go_at_call 68; refine (CV.out _ ?_).mono ?_; exact (Old.refl _).alloc (Nat.le_refl _) _; rintro e w' ⟨rfl, rfl⟩)
  refine (CC.out _ ((Below.refl _ _).alloc (Nat.le_refl _) _)).mono ?_
  rintro e W ⟨v', rfl, ho, hb1⟩
  obtain ⟨a, c, rfl⟩ := own_slice ho
  have k0 : W.heap[w.heap.size]? = some (.cells #[.int .i64 0, .int .i64 0] 28 (0, 0)) := (hb1.block _ (by simp)).trans (alloc_at w _)
  have hz : w.heap.size + 1 ≤ W.heap.size := Nat.le_trans (by simp) hb1.size
  have hcA := CA.out W a c (((Below.refl _ _).alloc (Nat.le_refl _) _).trans (hb1.mono (by simp))) k0 (own_base ho (by simp)) hz
  clear ho hb1 k0 hz CA CC CV
  have CA := Lib.hid hcA
  clear hcA
  go_wp2_with fail
  refine CA.out.mono ?_
  rintro e w3 ⟨rfl, h3, hP⟩
  have d0 : w3.cell? ⟨w.heap.size, 0, none⟩ = some (.int .i64 0) := cell_at h3
  have d1 : w3.cell? ⟨w.heap.size, 1, none⟩ = some (.int .i64 0) := cell_at h3
  have e0 : w3.frozen? ⟨w.heap.size, 0, none⟩ = false := frozen_at h3
  have e1 : w3.frozen? ⟨w.heap.size, 1, none⟩ = false := frozen_at h3
  have HP := Lib.hid hP
  clear hP h3 CA
  go_wp2
  refine bodyPost_ret (v := .tuple #[wv r, .int .i64 er]) ?_ rfl ⟨rfl, w3, HP.out, rfl⟩
  simp [results, Tryz.results219, go_sem, d0, d1]
set_option maxHeartbeats 1000000 in
theorem clone_any (s : ByteArray) (w : World) (hs : s.size ≤ 281474976710656) : Calls Tryz.prog 97 #[.string s] w fun e w' => e = .returned (.string s) ∧ Below w.heap.size w w' := by
  have cC := fun W => Tryz.stringslite_Clone s W hs
  clear hs
  go_enter Tryz.func97, Tryz.ntmps97
  go_wp2_with (go_at_call 142; ((with_reducible refine (cC _).mono ?_); rintro e w' ⟨rfl, hb⟩))
  go_ret
  exact ⟨rfl, hb⟩
set_option maxHeartbeats 1000000 in
theorem text_walk (hb n : Nat) (er : Int) (r : Wd) (s : ByteArray) (P : World → Prop) (w : World) (hn : n ≤ 65536) (cV : ValidIn w hb)
    (c39 : ∀ W, Below w.heap.size w W → Calls Tryz.prog 99 #[.string s] W fun e w' => e = .returned (.bool true) ∧ Below W.heap.size W w')
    (c40 : ∀ W, Below w.heap.size w W → Calls Tryz.prog 100 #[.string s] W fun e w' => e = .returned (.int .i64 n) ∧ Below W.heap.size W w')
    (c41 : ∀ W, Calls Tryz.prog 97 #[.string s] W fun e w' => e = .returned (.string s) ∧ Below W.heap.size W w')
    (cA : ∀ W, Below w.heap.size w W → W.heap[w.heap.size]? = some (.cells #[.int .i64 0, .int .i64 0] 28 (0, 0)) → w.heap.size + 1 ≤ W.heap.size →
      Calls Tryz.prog 101 #[hptr hb, .iface 140 (.pointer (some ⟨W.heap.size, 0, none⟩))] (W.alloc (.cells #[.string s, .int .i64 n] 143))
      fun e w' => e = .returned (.tuple #[wv r, .int .i64 er]) ∧ w'.heap[w.heap.size]? = some (.cells #[.int .i64 0, .int .i64 0] 28 (0, 0)) ∧ P w') :
    Calls Tryz.prog 50 #[hptr hb, .string s] w fun e w' => e = .returned (.tuple #[wv r, .int .i64 er]) ∧
      ∃ w3, P w3 ∧ w' = (w3.setCell ⟨w.heap.size, 0, none⟩ (.int .i64 r.1)).setCell ⟨w.heap.size, 1, none⟩ (.int .i64 r.2) := by
  have CV := Lib.hid cV
  have CA := Lib.hid cA
  have C39 := Lib.hid c39
  have C40 := Lib.hid c40
  have C41 := Lib.hid c41
  have hn1 : ¬ (65536 : Int) < n := by omega
  clear cV cA c39 c40 c41 hn
  go_enter Tryz.func50, Tryz.ntmps50
  go_wp2_with (go_at_call 68; refine (CV.out _ ?_).mono ?_; exact (Old.refl _).alloc (Nat.le_refl _) _; rintro e w' ⟨rfl, rfl⟩)
  refine (C39.out _ ((Below.refl _ _).alloc (Nat.le_refl _) _)).mono ?_
  rintro e W ⟨rfl, hb1⟩
  have hz1 : w.heap.size + 1 ≤ W.heap.size := Nat.le_trans (by simp) hb1.size
  have hbw : Below w.heap.size w W := ((Below.refl _ _).alloc (Nat.le_refl _) _).trans (hb1.mono (by simp))
  have k0 : W.heap[w.heap.size]? = some (.cells #[.int .i64 0, .int .i64 0] 28 (0, 0)) := (hb1.block _ (by simp)).trans (alloc_at w _)
  have H1 := Lib.hid (And.intro hz1 (And.intro hbw k0))
  clear hb1 hz1 hbw k0
  go_wp2_with fail
  refine (C40.out _ H1.out.2.1).mono ?_
  rintro e W2 ⟨rfl, hb2⟩
  have H2 := Lib.hid (And.intro (Nat.le_trans H1.out.1 hb2.size) (And.intro (H1.out.2.1.trans (hb2.mono H1.out.2.1.size)) ((hb2.block _ (by have := H1.out.1; omega)).trans H1.out.2.2)))
  clear hb2 H1
  go_wp2_with fail
  refine (C41.out _).mono ?_
  rintro e W3 ⟨rfl, hb3⟩
  have hcA := CA.out W3 (H2.out.2.1.trans (hb3.mono H2.out.2.1.size)) ((hb3.block _ (by have := H2.out.1; omega)).trans H2.out.2.2) (Nat.le_trans H2.out.1 hb3.size)
  clear hb3 H2 CA CV C39 C40 C41
  have CA := Lib.hid hcA
  clear hcA
  go_wp2_with fail
  refine CA.out.mono ?_
  rintro e w3 ⟨rfl, h3, hP⟩
  have d0 : w3.cell? ⟨w.heap.size, 0, none⟩ = some (.int .i64 0) := cell_at h3
  have d1 : w3.cell? ⟨w.heap.size, 1, none⟩ = some (.int .i64 0) := cell_at h3
  have e0 : w3.frozen? ⟨w.heap.size, 0, none⟩ = false := frozen_at h3
  have e1 : w3.frozen? ⟨w.heap.size, 1, none⟩ = false := frozen_at h3
  have HP := Lib.hid hP
  clear hP h3 CA
  go_wp2
  refine bodyPost_ret (v := .tuple #[wv r, .int .i64 er]) ?_ rfl ⟨rfl, w3, HP.out, rfl⟩
  simp [results, Tryz.results50, go_sem, d0, d1]
set_option maxHeartbeats 1000000 in
/-- Text refuses a string that is not valid. -/
theorem text_bad (hb : Nat) (s : ByteArray) (w : World) (cV : ValidIn w hb)
    (c39 : ∀ W, Below w.heap.size w W → Calls Tryz.prog 99 #[.string s] W fun e w' => e = .returned (.bool false) ∧ Below W.heap.size W w') :
    Calls Tryz.prog 50 #[hptr hb, .string s] w fun e w' => e = .returned (.tuple #[wv (0, 0), .int .i64 5]) ∧ Below w.heap.size w w' := by
  have CV := Lib.hid cV
  have C39 := Lib.hid c39
  clear cV c39
  go_enter Tryz.func50, Tryz.ntmps50
  go_wp2_with (go_at_call 68; refine (CV.out _ ?_).mono ?_; exact (Old.refl _).alloc (Nat.le_refl _) _; rintro e w' ⟨rfl, rfl⟩)
  refine (C39.out _ ((Below.refl _ _).alloc (Nat.le_refl _) _)).mono ?_
  rintro e W ⟨rfl, hb1⟩
  have k0 : W.heap[w.heap.size]? = some (.cells #[.int .i64 0, .int .i64 0] 28 (0, 0)) := (hb1.block _ (by simp)).trans (alloc_at w _)
  have hbw : Below w.heap.size w W := ((Below.refl _ _).alloc (Nat.le_refl _) _).trans (hb1.mono (by simp))
  have d0 : W.cell? ⟨w.heap.size, 0, none⟩ = some (.int .i64 0) := cell_at k0
  have d1 : W.cell? ⟨w.heap.size, 1, none⟩ = some (.int .i64 0) := cell_at k0
  have e0 : W.frozen? ⟨w.heap.size, 0, none⟩ = false := frozen_at k0
  have e1 : W.frozen? ⟨w.heap.size, 1, none⟩ = false := frozen_at k0
  have HP := Lib.hid hbw
  clear hb1 k0 hbw
  go_wp2
  refine bodyPost_ret (v := .tuple #[wv (0, 0), .int .i64 5]) ?_ rfl ⟨rfl, ?_⟩
  · simp [results, Tryz.results50, go_sem, d0, d1]
  · exact (HP.out.setCell (Nat.le_refl _) _).setCell (Nat.le_refl _) _
end Go.Proofs.YtbbopdkbokbafaaGreatDoor

/- The walks of Code and New; what the four makers leave of a heap. -/
namespace Go.Proofs.YtbbopdkbokbafaaGreatDoor
open Go.RowKit Go.Lib
theorem new_walk (n : Int) (w : World) (h1 : 1 ≤ n) (h2 : n ≤ 65536) : Calls Tryz.prog 57 #[.int .i64 n] w fun e w' => e = .returned (.tuple #[hptr w.heap.size, .int .i64 0]) ∧
    w' = w.alloc (.cells #[.int .i64 n, .slice none 0 0, .slice none 0 0, .int .i64 0] 135) := by
  have hd : decide (n < 1) = false := by simp; omega
  have hd2 : ¬ 65536 < n := by omega
  go_enter Tryz.func57, Tryz.ntmps57
  go_wp2
  go_ret2
  exact ⟨rfl, rfl⟩
theorem new_bad (n : Int) (w : World) (h : n < 1 ∨ 65536 < n) : Calls Tryz.prog 57 #[.int .i64 n] w fun e w' => e = .returned (.tuple #[.pointer none, .int .i64 3]) ∧ w' = w := by
  by_cases h1 : n < 1
  · go_enter Tryz.func57, Tryz.ntmps57
    go_wp2
    go_ret2
    exact ⟨rfl, rfl⟩
  · have hd : decide (n < 1) = false := by simp; omega
    have hd2 : 65536 < n := by omega
    clear h h1
    go_enter Tryz.func57, Tryz.ntmps57
    go_wp2
    go_ret2
    exact ⟨rfl, rfl⟩
/-- A heap with nothing in it. -/
def Hp.empty (n : Nat) : Hp := ⟨n, [], []⟩
theorem new_any (n : Nat) (w : World) (h1 : 1 ≤ n) (h2 : n ≤ 65536) : Calls Tryz.prog 57 #[.int .i64 n] w fun e w' => e = .returned (.tuple #[hptr w.heap.size, .int .i64 0]) ∧
    Below w.heap.size w w' ∧ w'.heap.size = w.heap.size + 1 ∧ HeapAt w' w.heap.size (fun k => if k = w.heap.size then 1 else 0) (Hp.empty n) := by
  refine (new_walk n w (by omega) (by omega)).mono ?_
  rintro e w' ⟨he, rfl⟩
  refine ⟨he, (Below.refl _ _).alloc (Nat.le_refl _) _, by simp, ⟨⟨h1, h2, by simp [Hp.empty], by simp [Hp.empty, total], fun i => by simp [Hp.empty], by simp [Hp.empty]⟩, fun k hk => ?_, by simp, _, _, [], alloc_at w _, Row.nil _ _ _ _ _, ?_, fun i o ho => by simp [Hp.empty] at ho⟩⟩
  · simp at hk
    exact if_neg (by omega)
  · exact Row.nil _ _ _ _ _
end Go.Proofs.YtbbopdkbokbafaaGreatDoor

