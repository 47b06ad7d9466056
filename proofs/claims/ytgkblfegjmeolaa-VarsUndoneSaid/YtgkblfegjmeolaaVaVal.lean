/- Values: a cell's word is appended. -/
import Derived.Test.YtgkblfegjmeolaaVaKeys2
import Derived.Test.YtgkblfegjmeolaaVaRow
namespace Go.Proofs.Ytgkblfegjmeolaa
open Go.RowKit Go.Lib Go.Shelf
/-- v holds the words l. -/
def OwnL (w : World) (v : Value) (l : List Wd) : Prop := w.ownsRow 0 28 2 v l.length (wcells l)
theorem OwnL.below {w w' : World} {v : Value} {l : List Wd} (h : OwnL w v l) (hb : Below w.heap.size w w') : OwnL w' v l := by
  obtain ⟨h1, h2⟩ := h
  refine ⟨h1, ?_⟩
  rcases h2 with h2 | ⟨g, cap, cur, hv, hg0, hh, hr⟩
  · exact .inl h2
  · exact .inr ⟨g, cap, cur, hv, hg0, (hb.block g (lt_at hh)).trans hh, hr⟩
theorem OwnL.nil (w : World) : OwnL w (.slice none 0 0) [] := World.ownsRow_nil w 0 _ _
theorem OwnL.lt {w : World} {v : Value} {l : List Wd} (h : OwnL w v l) : ∀ k, v.ownBlock = some k → k < w.heap.size := fun k hk => (World.ownsRow.lt h k hk).2
/-- From w to w' only v's own row may have changed; v' lies in it or in new memory. -/
def Grew (w w' : World) (v v' : Value) : Prop := w.heap.size ≤ w'.heap.size ∧ (∀ k, v'.ownBlock = some k → v.ownBlock = some k ∨ w.heap.size ≤ k) ∧ (∀ j, j < w.heap.size → v.ownBlock ≠ some j → w'.heap[j]? = w.heap[j]?) ∧ ∀ B, B ≤ w.heap.size → (∀ k, v.ownBlock = some k → B ≤ k) → Below B w w'
theorem Grew.ahead {w w1 w' : World} {v v' : Value} (h : Grew w1 w' v v') (hb : Below w.heap.size w w1) : Grew w w' v v' := by
  obtain ⟨h1, h2, h3, h4⟩ := h
  have := hb.size
  exact ⟨by omega, fun k hk => (h2 k hk).imp_right (by omega), fun j hj hv => (h3 j (by omega) hv).trans (hb.block j hj), fun B hB hv => (hb.mono hB).trans (h4 B (by omega) hv)⟩
theorem info_word : (Try.prog.info? 28).map (fun i => (i.zero, i.size, i.bytes)) = some (some (.agg #[.int .i64 0, .int .i64 0]), 2, 16) := by kernel_rfl
def addC (c : Cl) (l : List Wd) : List Wd := if c.2 then l ++ [c.1] else l
theorem addC_len (c : Cl) (l : List Wd) : (addC c l).length ≤ l.length + 1 := by
  unfold addC
  split <;> simp
set_option maxHeartbeats 2000000 in
theorem addto_any {w : World} {v : Value} {l : List Wd} (h : OwnL w v l) (c : Cl) (hl : l.length ≤ 1000000000000) :
    Calls Try.prog 58 #[cag c, v] w fun e w' => ∃ v', e = .returned v' ∧ OwnL w' v' (addC c l) ∧ Grew w w' v v' := by
  obtain ⟨⟨a, b⟩, s⟩ := c
  cases s with
  | false =>
    have H := Lib.hid h
    have hbw : Below w.heap.size w (w.alloc (cobj ((a, b), false))) := (Below.refl _ _).alloc (Nat.le_refl _) _
    clear h
    go_enter Try.func58, Try.ntmps58
    go_wp2_with fail
    go_ret
    exact ⟨_, rfl, H.out.below hbw, hbw.size, fun k hk => .inl hk, fun j hj _ => hbw.block j hj, fun B hB _ => hbw.mono hB⟩
  | true =>
    obtain ⟨i0, hi0, hz0, hz1, hz2⟩ := info_parts info_word
    have hb1 : Below w.heap.size w (w.alloc (cobj ((a, b), true))) := (Below.refl _ _).alloc (Nat.le_refl _) _
    have hs1 : (w.alloc (cobj ((a, b), true))).heap.size = w.heap.size + 1 := by simp
    have hb2 : Below w.heap.size w ((w.alloc (cobj ((a, b), true))).alloc (.cells #[.int .i64 a, .int .i64 b] 28)) := hb1.alloc (by omega) _
    have ha := alloc_at (w.alloc (cobj ((a, b), true))) (.cells #[.int .i64 a, .int .i64 b] 28)
    rw [hs1] at ha
    have hn : ∀ (j : Nat) (u : Value), [Value.int .i64 a, .int .i64 b][j]? = some u → ((w.alloc (cobj ((a, b), true))).alloc (.cells #[.int .i64 a, .int .i64 b] 28)).cell? ((⟨w.heap.size + 1, 0, none⟩ : Addr).add j) = some u := by
      intro j u hj
      match j, hj with
      | 0, hj => cases hj; exact cell_at ha
      | 1, hj => cases hj; exact cell_at ha
    have h63 : l.length + 1 ≤ maxLen := by simp only [maxLen]; omega
    have hby : (l.length + 1) * 16 ≤ 140737488355328 := by omega
    have hrow : Row ((w.alloc (cobj ((a, b), true))).alloc (.cells #[.int .i64 a, .int .i64 b] 28)) (fun j => if v.ownBlock = some j then 4 else 0) 4 28 2 v l.length (wcells l) := ⟨h.below hb2, fun k hk => if_pos hk⟩
    have hend : ∀ v' w', Row w' (fun k => if k < ((w.alloc (cobj ((a, b), true))).alloc (.cells #[.int .i64 a, .int .i64 b] 28)).heap.size then (fun j => if v.ownBlock = some j then 4 else 0) k else 4) 4 28 2 v' (l.length + 1) (wcells l ++ [.int .i64 a, .int .i64 b]) → ((w.alloc (cobj ((a, b), true))).alloc (.cells #[.int .i64 a, .int .i64 b] 28)).grownBy w' v.ownBlock → OwnL w' v' (addC ((a, b), true) l) ∧ Grew w w' v v' := by
      intro v' w' hr hg
      have hs2 : ((w.alloc (cobj ((a, b), true))).alloc (.cells #[.int .i64 a, .int .i64 b] 28)).heap.size = w.heap.size + 2 := by simp
      refine ⟨?_, Grew.ahead (w1 := (w.alloc (cobj ((a, b), true))).alloc (.cells #[.int .i64 a, .int .i64 b] 28)) ⟨hg.size, fun k hk => ?_, fun j hj hv => hg.block j hj (fun e => hv e.symm), fun B hB hv => (Below.refl B _).grown hg hB hv⟩ hb2⟩
      · show w'.ownsRow 0 _ 2 v' (l ++ [(a, b)]).length (wcells (l ++ [(a, b)]))
        rw [wcells_append, List.length_append]
        exact hr.own
      · have h1 := hr.lab k hk
        rcases Nat.lt_or_ge k ((w.alloc (cobj ((a, b), true))).alloc (.cells #[.int .i64 a, .int .i64 b] 28)).heap.size with h2 | h2
        · rw [if_pos h2] at h1
          by_cases e : v.ownBlock = some k
          · exact .inl e
          · simp only [if_neg e] at h1; omega
        · exact .inr h2
    have H := Lib.hid (And.intro hrow (And.intro hn (And.intro h63 (And.intro hby hend))))
    clear h hb1 hb2 hs1 ha hn h63 hby hend hrow
    go_enter Try.func58, Try.ntmps58
    go_wp2_with (at_builtin; refine wpList_append_row _ rfl _ _ 44 rfl 28 i0 (.agg #[.int .i64 0, .int .i64 0]) 2 16 Try.underlying44 hi0 hz0 hz1 hz2 rfl (by decide) v l.length (wcells l) rfl _ 4 H.out.1 ⟨w.heap.size + 1, 0, none⟩ 1 1 [.int .i64 a, .int .i64 b] rfl rfl H.out.2.1 (by simp [Value.oneCell']) H.out.2.2.1 H.out.2.2.2.1 ?_; intro v1' w1 hrow1 hgr1 _; have HQ := Lib.hid (H.out.2.2.2.2 v1' w1 hrow1 hgr1); clear hrow1 hgr1)
    go_ret
    exact ⟨_, rfl, HQ.out.1, HQ.out.2⟩
end Go.Proofs.Ytgkblfegjmeolaa
