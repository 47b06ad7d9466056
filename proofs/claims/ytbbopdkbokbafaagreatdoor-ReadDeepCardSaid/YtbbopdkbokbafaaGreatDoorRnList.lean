/- The contract of runes.List, for every string of at most 100,000 bytes. Condition: unicode/utf8's two tables hold what the program's text lays. -/
import Derived.Test.YtbbopdkbokbafaaGreatDoorHpMake2
import Derived.Test.YtbbopdkbokbafaaGreatDoorRnShelf
import Derived.Test.YtbbopdkbokbafaaGreatDoorNmRef
import Derived.LoopTactic
import Derived.Laws.RangeString
import Derived.Laws.RangeAny
import Derived.Lib.OthersKept
import Derived.WalkSmall
import Derived.OwnWalk
namespace Go.Proofs.YtbbopdkbokbafaaGreatDoor
open Go.RowKit Go.Lib Go.Shelf
theorem info_intL : (Tryz.prog.info? 3).map (fun i => (i.zero, i.size, i.bytes)) = some (some (.int .i64 0), 1, 8) := by kernel_rfl
set_option maxHeartbeats 400000 in
theorem list_not (s : ByteArray) (w : World) (hs : s.size ≤ 100000) (hT : Tabs w) (hv : validD s.data.toList = false) :
    Calls Tryz.prog 110 #[.string s] w fun e w' => e = .returned (.tuple #[.slice none 0 0, .int .i64 5]) ∧ Below w.heap.size w w' := by
  have cV := rvalid_any s w (by omega) hT
  rw [hv] at cV
  clear hv
  go_enter Tryz.func110, Tryz.ntmps110
  go_wp2_with (go_at_call 99; ((with_reducible refine cV.mono ?_); rintro e w' ⟨rfl, hb⟩))
  go_ret2
  exact ⟨rfl, hb⟩
theorem ownsRow_iter {w : World} {B : Nat} {v : Value} {n : Nat} {xs : List Value} (h : w.ownsRow B 3 1 v n xs) {k : Nat} {s : ByteArray} {pos : Nat} (hk : w.heap[k]? = some (.stringIter s pos)) (pos' : Nat) : (w.iterAt k s pos').ownsRow B 3 1 v n xs := by
  obtain ⟨h1, h2⟩ := h
  refine ⟨h1, ?_⟩
  rcases h2 with h2 | ⟨g, cap, cur, a, b, c, d⟩
  · exact .inl h2
  · refine .inr ⟨g, cap, cur, a, b, ?_, d⟩
    rw [Lib.iterAt_other _ _ _ _ _ (by intro e; subst e; rw [hk] at c; cases c)]
    exact c
theorem own_ne_iter {w : World} {B : Nat} {v : Value} {n : Nat} {xs : List Value} (h : w.ownsRow B 3 1 v n xs) {k : Nat} {s : ByteArray} {pos : Nat} (hk : w.heap[k]? = some (.stringIter s pos)) : v.ownBlock ≠ some k := by
  obtain ⟨_, h2⟩ := h
  rcases h2 with ⟨rfl, _⟩ | ⟨g, cap, cur, rfl, _, c, _⟩
  · simp [Value.ownBlock]
  · simp only [Value.ownBlock, ne_eq, Option.some.injEq]
    intro e; subst e; rw [hk] at c; cases c
set_option maxHeartbeats 1000000 in
theorem list_valid0 (s : ByteArray) (w : World) (hs : s.size ≤ 100000) (hT : Tabs w) (hv : validD s.data.toList = true) :
    Calls Tryz.prog 110 #[.string s] w fun e w' => ∃ v, e = .returned (.tuple #[v, .int .i64 0]) ∧ Ints w.heap.size v (runesD s.data.toList) w' ∧ v ≠ .slice none 0 0 ∧ Below w.heap.size w w' := by
  have cV := rvalid_any s w (by omega) hT
  rw [hv] at cV
  have cR := fun w => Tryz.utf8_RuneCountInString s w (by omega)
  have hcnt : (runesD s.data.toList).length ≤ s.size := by rw [← runeCount_eq]; exact runeCount_le s
  rw [runeCount_eq] at cR
  obtain ⟨N, hN⟩ : ∃ N, (runesD s.data.toList).length = N := ⟨_, rfl⟩
  rw [hN] at cR hcnt
  have HN : Hid _ := Lib.hid hN
  obtain ⟨i0, hi, hz0, hz1, hz2⟩ := info_parts info_intL
  clear hv hN
  go_enter Tryz.func110, Tryz.ntmps110
  go_wp2_with (first | (go_at_call 99; ((with_reducible refine cV.mono ?_); rintro e W1 ⟨rfl, hb⟩)) | (go_at_call 144; ((with_reducible refine (cR _).mono ?_); rintro e w' ⟨rfl, pos, rfl⟩)) | (at_make; refine wpList_make_own _ rfl _ _ 61 rfl w.heap.size 3 i0 (.int .i64 0) 1 Tryz.underlying61 hi hz0 hz1 .i64 .i64 _ N rfl rfl rfl ?c1 ?c2 ?c3 ?_))
  case c1 => rw [hz2]; omega
  case c2 => unfold maxLen; omega
  case c3 => have := hb.size; simp [World.iter]; omega
  intro w2 hown0 hgrow
  have hbw0 : Below w.heap.size w w2 := (below_iter (s := s) (pos := pos) hb hb.size).grown hgrow (by have := hb.size; simp [World.iter]; omega) (fun k hk => by cases hk)
  have hK0 : w.heap.size ≤ w2.heap.size := hbw0.size
  have hv0 : (Value.slice (some { block := (W1.iter s pos).heap.size, off := 0 }) 0 N) ≠ .slice none 0 0 := by simp
  generalize (Value.slice (some { block := (W1.iter s pos).heap.size, off := 0 }) 0 N) = v0 at hown0 hv0 ⊢
  have HV0 : Hid _ := Lib.hid hv0
  clear hv0
  clear hgrow cV cR hb hT
  go_wp2
  go_loopw [4] (fun v wr => ∃ (pos : Nat) (acc : List Int), Ints w.heap.size v acc wr ∧ wr.heap[w2.heap.size]? = some (.stringIter s pos) ∧ Below w.heap.size w wr ∧ acc.length ≤ N ∧ Hid (v ≠ .slice none 0 0) ∧ Hid (acc ++ runesD (s.data.toList.drop pos) = runesD s.data.toList)) (fun _ wr => s.size - wr.iterPos w2.heap.size)
  case atStart => exact ⟨0, [], by simpa [Ints, World.iter] using hown0.alloc (.stringIter s 0), World.iter_heap w2 s 0, below_iter hbw0 hK0, Nat.zero_le _, HV0, Lib.hid (by simp)⟩
  case round =>
    obtain ⟨pos, acc, hown, hit, hbw, hal, HV, HA⟩ := hrel
    by_cases hp : pos < s.size
    · have hnx : ∀ ty, (Instr.next (.pointer (some ⟨w2.heap.size, 0, none⟩)) true ty).run Tryz.prog wr = _ := fun ty => Lib.run_next_any_at wr w2.heap.size s pos ty hit hp
      have hwd := Lib.decode_width_pos s pos hp
      have hst := runesD_at s pos hp
      have hle := decode_le s pos
      have HA2 : Hid _ := Lib.hid (hst ▸ HA.out)
      have hlen : acc.length + 1 ≤ N := by
        have h1 := congrArg List.length HA2.out
        rw [HN.out] at h1
        simp at h1
        omega
      clear hst HA
      generalize Utf8.decode s pos = d at *
      obtain ⟨ch, wd⟩ := d
      simp only at hnx hwd hle HA2
      have hown2 := ownsRow_iter hown hit (pos + wd)
      have hit2 := Lib.iterAt_heap wr w2.heap.size s pos (pos + wd) hit
      have hbw2 := Lib.below_iterAt hbw hK0 s (pos + wd)
      have hne := own_ne_iter hown2 hit2
      have hge := own_ge hown2
      have hKl : w2.heap.size < (wr.iterAt w2.heap.size s (pos + wd)).heap.size := (Array.getElem?_eq_some_iff.1 hit2).1
      have hsz2 := hbw2.size
      have hms : wr.iterPos w2.heap.size = pos := by simp [World.iterPos, hit]
      have HM : Hid _ := Lib.hid hms
      have HF : Hid (_ ∧ _ ∧ _ ∧ _) := Lib.hid ⟨hit2, hbw2, hne, hge⟩
      clear hms hit2 hbw2 hne hge hit hbw hbw0 hown0
      go_wp2_with (at_builtin; refine wpList_append_own _ rfl _ _ 61 rfl w.heap.size 3 i0 (.int .i64 0) 1 8 Tryz.underlying61 hi hz0 hz1 hz2 rfl (by decide) _ _ _ rfl (hown2.alloc _) _ 1 1 [.int .i64 ch] rfl rfl ?c1 ?c2 ?c3 ?c4 ?c5 ?_)
      case c1 =>
        intro j u hj
        match j, hj with
        | 0, hj => simp at hj; subst hj; simp [Addr.add]
        | (j + 1), hj => simp at hj
      case c2 => intro u hu; simp at hu; subst hu; rfl
      case c3 => unfold maxLen; omega
      case c4 => omega
      case c5 => simp; omega
      intro v' w3 hown3 hgr hnil
      have HV3 : Hid (v' ≠ .slice none 0 0) := Lib.hid (by first | exact hnil | (intro e; have := (hnil.1 e).2; omega))
      clear hnil
      obtain ⟨hit2, hbw2, hne, hge⟩ := HF.out
      have hit3 : w3.heap[w2.heap.size]? = some (.stringIter s (pos + wd)) := by
        rw [hgr.block w2.heap.size (by simp; omega) (fun e => hne e.symm), Lib.alloc_old _ _ _ hKl]
        exact hit2
      have hbw3 : Below w.heap.size w w3 := (hbw2.alloc (by omega) _).grown hgr (by simp; omega) hge
      have hm3 : w3.iterPos w2.heap.size = pos + wd := by simp [World.iterPos, hit3]
      have HZ : Hid (_ ∧ _ ∧ _ ∧ _) := Lib.hid ⟨hown3, hit3, hbw3, hm3⟩
      clear hown3 hgr hit2 hbw2 hne hge hit3 hbw3 hm3 HF hown hown2
      go_wp2
      go_roundw
      case rel => exact ⟨pos + wd, acc ++ [(ch : Int)], by simpa [Ints] using HZ.out.1, HZ.out.2.1, HZ.out.2.2.1, by simpa using hlen, HV3, Lib.hid (by simpa using HA2.out)⟩
      case measure => rw [HZ.out.2.2.2, HM.out]; omega
    · have hnx : ∀ ty, (Instr.next (.pointer (some ⟨w2.heap.size, 0, none⟩)) true ty).run Tryz.prog wr = _ := fun ty => Lib.run_next_end_at wr w2.heap.size s pos ty hit hp
      have ea : acc = runesD s.data.toList := by have := HA.out; rw [runesD_end s pos hp] at this; simpa using this
      subst ea
      clear HA hbw0 hown0
      go_wp2
      go_ret2
      exact ⟨_, rfl, hown, HV.out, hbw⟩
theorem list_valid (s : ByteArray) (w : World) (hs : s.size ≤ 100000) (hT : Tabs w) (hv : validD s.data.toList = true) :
    Calls Tryz.prog 110 #[.string s] w fun e w' => ∃ g cap, e = .returned (.tuple #[.slice (some ⟨g, 0, none⟩) (runesD s.data.toList).length cap, .int .i64 0]) ∧ Ints w.heap.size (.slice (some ⟨g, 0, none⟩) (runesD s.data.toList).length cap) (runesD s.data.toList) w' ∧ Below w.heap.size w w' := by
  refine (list_valid0 s w hs hT hv).mono ?_
  rintro e w' ⟨v, rfl, hi, hn, hb⟩
  obtain ⟨h1, h2⟩ := hi
  rcases h2 with ⟨e, _⟩ | ⟨g, cap, cur, rfl, hrest⟩
  · exact absurd e hn
  · exact ⟨g, cap, rfl, ⟨h1, .inr ⟨g, cap, cur, rfl, hrest⟩⟩, hb⟩
end Go.Proofs.YtbbopdkbokbafaaGreatDoor
