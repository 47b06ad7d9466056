/- The contracts of copyOf at words, bytes and ints: a new row with the same cells. -/
import Derived.Test.YtleppjdmcjocmaaDoorHpAdd4
import Derived.Laws.AppendOwnNone
namespace Go.Proofs.YtleppjdmcjocmaaDoor
open Go.RowKit Go.Lib
/-- A slice that reads as n elements, wherever it lies. -/
def Src (w : World) (size : Nat) (v : Value) (n : Nat) (xs : List Value) : Prop :=
  (v = .slice none 0 0 ∧ n = 0 ∧ xs = []) ∨ ∃ ad c, v = .slice (some ad) n c ∧ xs.length = n * size ∧ ∀ j u, xs[j]? = some u → w.cell? (ad.add j) = some u
theorem Src.slice {w : World} {size : Nat} {v : Value} {n : Nat} {xs : List Value} (h : Src w size v n xs) : ∃ a c, v = .slice a n c := by
  rcases h with ⟨rfl, rfl, _⟩ | ⟨ad, c, rfl, _⟩
  · exact ⟨none, 0, rfl⟩
  · exact ⟨_, c, rfl⟩
theorem Src.below {w w' : World} {size : Nat} {v : Value} {n : Nat} {xs : List Value} (h : Src w size v n xs) {B : Nat} (hb : Below B w w') (hv : ∀ k, v.ownBlock = some k → k < B) : Src w' size v n xs := by
  rcases h with h | ⟨ad, c, rfl, h2, h3⟩
  · exact .inl h
  · refine .inr ⟨ad, c, rfl, h2, fun j u hu => ?_⟩
    rw [hb.cell (by have := hv ad.block rfl; cases ad with | mk b o s => (by_cases hj : j = 0 <;> simpa [Addr.add, hj] using this))]
    exact h3 j u hu
theorem Src.of_own {w : World} {B e size : Nat} {v : Value} {n : Nat} {xs : List Value} (h : w.ownsRow B e size v n xs) : Src w size v n xs := by
  rcases h.2 with ⟨h1, h2⟩ | ⟨g, cap, cur, h1, h2⟩
  · refine .inl ⟨h1, h2, ?_⟩
    have := h.1
    rw [h2] at this
    simpa using this
  · exact .inr ⟨_, cap, h1, h.1, fun j u hu => World.ownsRow.cells h (g := g) (by rw [h1]; rfl) j u hu⟩
theorem info_word : (Tryd.prog.info? 28).map (fun i => (i.zero, i.size, i.bytes)) = some (some (.agg #[.int .i64 0, .int .i64 0]), 2, 16) := by kernel_rfl
theorem info_byte : (Tryd.prog.info? 5).map (fun i => (i.zero, i.size, i.bytes)) = some (some (.int .u8 0), 1, 1) := by kernel_rfl
theorem info_int : (Tryd.prog.info? 3).map (fun i => (i.zero, i.size, i.bytes)) = some (some (.int .i64 0), 1, 8) := by kernel_rfl
set_option maxHeartbeats 400000 in
theorem copy_word (v : Value) (n : Nat) (xs : List Value) (w : World) (h : Src w 2 v n xs) (h1 : ∀ u ∈ xs, u.oneCell' = true) (hn : n ≤ 70000) :
    Calls Tryd.prog 44 #[v] w fun e w' => ∃ v', e = .returned v' ∧ w'.ownsRow w.heap.size 28 2 v' n xs ∧ Below w.heap.size w w' := by
  obtain ⟨i0, hi, hz0, hz1, hz2⟩ := info_parts info_word
  rcases h with ⟨rfl, rfl, rfl⟩ | ⟨ad, c, rfl, hl, hc⟩
  · go_enter Tryd.func44, Tryd.ntmps44
    go_wp2_with (at_builtin; refine wpList_append_own_none rfl _ _ 36 rfl 0 28 i0 2 Tryd.underlying36 hi _ 0 [] rfl (World.ownsRow_nil _ _ _ _) rfl ?_)
    go_ret
    exact ⟨_, rfl, World.ownsRow_nil _ _ _ _, Below.refl _ _⟩
  · have HC := Lib.hid hc
    have HL := Lib.hid hl
    clear hc hl
    go_enter Tryd.func44, Tryd.ntmps44
    go_wp2_with (at_builtin; refine wpList_append_own _ rfl _ _ 36 rfl w.heap.size 28 i0 (.agg #[.int .i64 0, .int .i64 0]) 2 16 Tryd.underlying36 hi hz0 hz1 hz2 rfl (by decide) _ _ _ rfl (World.ownsRow_nil _ _ _ _) ad n c xs rfl HL.out HC.out h1 ?c3 ?c4 (Nat.le_refl _) ?_)
    case c3 => unfold maxLen; omega
    case c4 => omega
    intro v' w1 hown hgr _
    obtain ⟨av, cv, rfl⟩ : ∃ a cap, v' = .slice a n cap := by
      rcases hown.2 with ⟨e, e2⟩ | ⟨g, cap, cur, e, _⟩
      · exact ⟨none, 0, by rw [e, show n = 0 by omega]⟩
      · exact ⟨_, cap, by rw [e]⟩
    have HO := Lib.hid (And.intro hown hgr)
    clear hown hgr
    go_wp2
    go_ret
    obtain ⟨hown, hgr⟩ := HO.out
    exact ⟨_, rfl, by simpa using hown, (Below.refl _ _).grown hgr (Nat.le_refl _) (fun k hk => by cases hk)⟩
set_option maxHeartbeats 400000 in
theorem copy_byte (v : Value) (n : Nat) (xs : List Value) (w : World) (h : Src w 1 v n xs) (h1 : ∀ u ∈ xs, u.oneCell' = true) (hn : n ≤ 70000) :
    Calls Tryd.prog 58 #[v] w fun e w' => ∃ v', e = .returned v' ∧ w'.ownsRow w.heap.size 5 1 v' n xs ∧ Below w.heap.size w w' := by
  obtain ⟨i0, hi, hz0, hz1, hz2⟩ := info_parts info_byte
  rcases h with ⟨rfl, rfl, rfl⟩ | ⟨ad, c, rfl, hl, hc⟩
  · go_enter Tryd.func58, Tryd.ntmps58
    go_wp2_with (at_builtin; refine wpList_append_own_none rfl _ _ 50 rfl 0 5 i0 1 Tryd.underlying50 hi _ 0 [] rfl (World.ownsRow_nil _ _ _ _) rfl ?_)
    go_ret
    exact ⟨_, rfl, World.ownsRow_nil _ _ _ _, Below.refl _ _⟩
  · have HC := Lib.hid hc
    have HL := Lib.hid hl
    clear hc hl
    go_enter Tryd.func58, Tryd.ntmps58
    go_wp2_with (at_builtin; refine wpList_append_own _ rfl _ _ 50 rfl w.heap.size 5 i0 (.int .u8 0) 1 1 Tryd.underlying50 hi hz0 hz1 hz2 rfl (by decide) _ _ _ rfl (World.ownsRow_nil _ _ _ _) ad n c xs rfl HL.out HC.out h1 ?c3 ?c4 (Nat.le_refl _) ?_)
    case c3 => unfold maxLen; omega
    case c4 => omega
    intro v' w1 hown hgr _
    obtain ⟨av, cv, rfl⟩ : ∃ a cap, v' = .slice a n cap := by
      rcases hown.2 with ⟨e, e2⟩ | ⟨g, cap, cur, e, _⟩
      · exact ⟨none, 0, by rw [e, show n = 0 by omega]⟩
      · exact ⟨_, cap, by rw [e]⟩
    have HO := Lib.hid (And.intro hown hgr)
    clear hown hgr
    go_wp2
    go_ret
    obtain ⟨hown, hgr⟩ := HO.out
    exact ⟨_, rfl, by simpa using hown, (Below.refl _ _).grown hgr (Nat.le_refl _) (fun k hk => by cases hk)⟩
set_option maxHeartbeats 400000 in
theorem copy_int (v : Value) (n : Nat) (xs : List Value) (w : World) (h : Src w 1 v n xs) (h1 : ∀ u ∈ xs, u.oneCell' = true) (hn : n ≤ 70000) :
    Calls Tryd.prog 47 #[v] w fun e w' => ∃ v', e = .returned v' ∧ w'.ownsRow w.heap.size 3 1 v' n xs ∧ Below w.heap.size w w' := by
  obtain ⟨i0, hi, hz0, hz1, hz2⟩ := info_parts info_int
  rcases h with ⟨rfl, rfl, rfl⟩ | ⟨ad, c, rfl, hl, hc⟩
  · go_enter Tryd.func47, Tryd.ntmps47
    go_wp2_with (at_builtin; refine wpList_append_own_none rfl _ _ 55 rfl 0 3 i0 1 Tryd.underlying55 hi _ 0 [] rfl (World.ownsRow_nil _ _ _ _) rfl ?_)
    go_ret
    exact ⟨_, rfl, World.ownsRow_nil _ _ _ _, Below.refl _ _⟩
  · have HC := Lib.hid hc
    have HL := Lib.hid hl
    clear hc hl
    go_enter Tryd.func47, Tryd.ntmps47
    go_wp2_with (at_builtin; refine wpList_append_own _ rfl _ _ 55 rfl w.heap.size 3 i0 (.int .i64 0) 1 8 Tryd.underlying55 hi hz0 hz1 hz2 rfl (by decide) _ _ _ rfl (World.ownsRow_nil _ _ _ _) ad n c xs rfl HL.out HC.out h1 ?c3 ?c4 (Nat.le_refl _) ?_)
    case c3 => unfold maxLen; omega
    case c4 => omega
    intro v' w1 hown hgr _
    obtain ⟨av, cv, rfl⟩ : ∃ a cap, v' = .slice a n cap := by
      rcases hown.2 with ⟨e, e2⟩ | ⟨g, cap, cur, e, _⟩
      · exact ⟨none, 0, by rw [e, show n = 0 by omega]⟩
      · exact ⟨_, cap, by rw [e]⟩
    have HO := Lib.hid (And.intro hown hgr)
    clear hown hgr
    go_wp2
    go_ret
    obtain ⟨hown, hgr⟩ := HO.out
    exact ⟨_, rfl, by simpa using hown, (Below.refl _ _).grown hgr (Nat.le_refl _) (fun k hk => by cases hk)⟩
end Go.Proofs.YtleppjdmcjocmaaDoor
