/- The kit's Own: a slice's words in new memory. -/
import Derived.Test.YtleppjdmcjocmaaDoorHpCopyOf
namespace Go.Proofs.YtleppjdmcjocmaaDoor
open Go.RowKit Go.Lib
set_option maxHeartbeats 1000000 in
theorem own_word (v : Value) (n : Nat) (xs : List Value) (w : World) (hb : ∀ W, Below w.heap.size w W → Src W 2 v n xs) (h1 : ∀ u ∈ xs, u.oneCell' = true) (hn : n ≤ 70000) :
    Calls Tryd.prog 31 #[v] w fun e w' => ∃ v', e = .returned v' ∧ w'.ownsRow w.heap.size 28 2 v' n xs ∧ Below w.heap.size w w' := by
  obtain ⟨i0, hi, hz0, hz1, hz2⟩ := info_parts info_word
  have hbl := (Below.refl w.heap.size w).alloc (Nat.le_refl _) (.cells #[] 28)
  have hown0 : (w.alloc (.cells #[] 28)).ownsRow w.heap.size 28 2 (.slice (some ⟨w.heap.size, 0, none⟩) 0 0) 0 [] := World.ownsRow_lit w #[] 0 (Nat.le_refl _) (by decide) rfl
  have h2 := hb _ hbl
  clear hb
  rcases h2 with ⟨rfl, rfl, rfl⟩ | ⟨ad, c, rfl, hl, hc⟩
  · have HO := Lib.hid (And.intro hown0 hbl)
    clear hown0 hbl
    go_enter Tryd.func31, Tryd.ntmps31
    go_wp2_with (at_builtin; refine wpList_append_own_none rfl _ _ 36 rfl w.heap.size 28 i0 2 Tryd.underlying36 hi _ 0 [] rfl HO.out.1 rfl ?_)
    go_ret
    exact ⟨_, rfl, HO.out.1, HO.out.2⟩
  · have HC := Lib.hid hc
    have HL := Lib.hid hl
    have HO := Lib.hid (And.intro hown0 hbl)
    clear hc hl hown0 hbl
    go_enter Tryd.func31, Tryd.ntmps31
    go_wp2_with (at_builtin; refine wpList_append_own _ rfl _ _ 36 rfl w.heap.size 28 i0 (.agg #[.int .i64 0, .int .i64 0]) 2 16 Tryd.underlying36 hi hz0 hz1 hz2 rfl (by decide) _ _ _ rfl HO.out.1 ad n c xs rfl HL.out HC.out h1 ?c3 ?c4 ?c5 ?_)
    case c3 => unfold maxLen; omega
    case c4 => omega
    case c5 => simp
    intro v' w1 hown hgr _
    obtain ⟨av, cv, rfl⟩ : ∃ a cap, v' = .slice a n cap := by
      rcases hown.2 with ⟨e, e2⟩ | ⟨g, cap, cur, e, _⟩
      · exact ⟨none, 0, by rw [e, show n = 0 by omega]⟩
      · exact ⟨_, cap, by rw [e]⟩
    have HQ := Lib.hid (And.intro hown hgr)
    clear hown hgr
    go_wp2
    go_ret
    obtain ⟨hown, hgr⟩ := HQ.out
    exact ⟨_, rfl, by simpa using hown, HO.out.2.trans ((Below.refl w.heap.size _).grown hgr (by simp) (fun k hk => by cases hk; exact Nat.le_refl _))⟩
end Go.Proofs.YtleppjdmcjocmaaDoor
