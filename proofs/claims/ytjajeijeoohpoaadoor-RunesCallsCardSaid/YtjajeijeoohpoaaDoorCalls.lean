/- The walk of the law RunesCalls, for any string, any indexes and any slice of ints. Condition: unicode/utf8's two tables hold what the program's text lays. -/
import Derived.Test.YtjajeijeoohpoaaDoorRefCut
import Derived.Test.YtjajeijeoohpoaaDoorOwn
import Derived.Test.YtjajeijeoohpoaaDoorBack
import Derived.Test.YtjajeijeoohpoaaDoorLaws1
namespace Go.Proofs.YtjajeijeoohpoaaDoor
open Go.RowKit Go.Lib Go.Shelf
def listL (l : List UInt8) : List Int := if validD l = true then runesD l else []
def listE (l : List UInt8) : Int := if validD l = true then 0 else 5
theorem sl_nil (w : World) : Sl (.slice none 0 0) [] w := ⟨none, 0, rfl, fun i x hx => by simp at hx⟩
theorem listS (s : ByteArray) (w : World) (hs : s.size ≤ 100000) (hT : Tabs w) :
    Calls Tryd.prog 13 #[.string s] w fun e w' => ∃ p, e = .returned (.tuple #[p, .int .i64 (listE s.data.toList)]) ∧ Sl p (listL s.data.toList) w' ∧ Below w.heap.size w w' := by
  unfold listL listE
  cases hv : validD s.data.toList
  · refine (list_not s w hs hT hv).mono ?_
    rintro e w' ⟨he, hb⟩
    exact ⟨_, he, sl_nil w', hb⟩
  · refine (list_valid s w hs hT hv).mono ?_
    rintro e w' ⟨g, cap, he, hi, hb⟩
    exact ⟨_, he, hi.sl, hb⟩
theorem refListS (s : ByteArray) (w : World) (hs : s.size ≤ 100000) :
    Calls Tryd.prog 24 #[.string s] w fun e w' => ∃ p, e = .returned (.tuple #[p, .int .i64 (listE s.data.toList)]) ∧ Sl p (listL s.data.toList) w' ∧ Below w.heap.size w w' := by
  unfold listL listE
  cases hv : validD s.data.toList
  · refine (refList_not s w hs hv).mono ?_
    rintro e w' ⟨he, hb⟩
    exact ⟨_, he, sl_nil w', hb⟩
  · refine (refList_valid s _ _ w hs hv rfl rfl).mono ?_
    rintro e w' ⟨a, cap, he, hi, hb⟩
    exact ⟨_, he, hi.sl, hb⟩
set_option maxHeartbeats 400000 in
set_option maxRecDepth 100000 in
theorem calls_long (s : ByteArray) (x y z : Int) (a : Option Addr) (n cap : Nat) (w : World) (h : 2000 < s.size ∨ 2000 < n) (hT : Tabs w) :
    Calls Tryd.prog 4 #[.string s, .int .i64 x, .int .i64 y, .int .i64 z, .slice a n cap] w fun e w' => e = .returned (.bool true) ∧ Below w.heap.size w w' := by
  have cL := lives_any w hT
  by_cases hs : (2000 : Int) < (s.size : Int)
  · go_enter Tryd.func4, Tryd.ntmps4
    go_wp2_with (go_at_call 10; ((with_reducible refine cL.mono ?_); rintro e W1 ⟨rfl, hb⟩))
    go_ret
    exact ⟨rfl, hb⟩
  · have hz : (2000 : Int) < (n : Int) := by omega
    go_enter Tryd.func4, Tryd.ntmps4
    go_wp2_with (go_at_call 10; ((with_reducible refine cL.mono ?_); rintro e W1 ⟨rfl, hb⟩))
    go_ret
    exact ⟨rfl, hb⟩
set_option maxHeartbeats 2000000 in
set_option maxRecDepth 100000 in
theorem calls_core (s : ByteArray) (x y z : Int) (a : Option Addr) (n cap : Nat) (l : List Int) (w : World) (hs : s.size ≤ 2000) (hn : n ≤ 2000) (hT : Tabs w) (hx : x ≤ 9223372036854775807)
    (hsl : Sl (.slice a n cap) l w) (hl : l.length = n) (hf : (Value.slice a n cap) = .slice none 0 0 ∨ ∃ ad n' cap', (Value.slice a n cap) = .slice (some ad) n' cap') :
    Calls Tryd.prog 4 #[.string s, .int .i64 x, .int .i64 y, .int .i64 z, .slice a n cap] w fun e w' => e = .returned (.bool true) ∧ Below w.heap.size w w' := by
  have k10 := After.ofT hT lives_any
  have k14 := After.ofT hT (fun W hW => at_any s x W (by omega) hx hW)
  have k22 : After w 22 _ _ := After.of (fun W => refAt_any s x W (by omega))
  have k11 := After.ofT hT (fun W hW => cut_any s y z W (by omega) hW)
  have k23 : After w 23 _ _ := After.of (fun W => refCut_any s y z W (by omega))
  have k13 : ∀ W, Below w.heap.size w W → Calls Tryd.prog 13 #[.string s] W fun e w' => ∃ p, e = .returned (.tuple #[p, .int .i64 (listE s.data.toList)]) ∧ Sl p (listL s.data.toList) w' ∧ Below w.heap.size w w' := fun W hb =>
    (listS s W (by omega) (hT.below hb hT.size)).mono fun e w' ⟨p, h1, h2, h3⟩ => ⟨p, h1, h2, hb.trans (h3.mono hb.size)⟩
  have k24 : ∀ W, Below w.heap.size w W → Calls Tryd.prog 24 #[.string s] W fun e w' => ∃ p, e = .returned (.tuple #[p, .int .i64 (listE s.data.toList)]) ∧ Sl p (listL s.data.toList) w' ∧ Below W.heap.size W w' ∧ Below w.heap.size w w' := fun W hb =>
    (refListS s W (by omega)).mono fun e w' ⟨p, h1, h2, h3⟩ => ⟨p, h1, h2, h3, hb.trans (h3.mono hb.size)⟩
  have hz1 : ¬ (2000 : Int) < (s.size : Int) := by omega
  have hz2 : ¬ (2000 : Int) < (n : Int) := by omega
  have ll : (listL s.data.toList).length ≤ 2000 := by
    unfold listL
    have := runes_len_le s
    by_cases h : validD s.data.toList = true
    · rw [if_pos h]; omega
    · rw [if_neg h]; simp
  generalize (atD s.data.toList x).1 = c0 at k14 k22
  generalize (atD s.data.toList x).2 = f0 at k14 k22
  generalize cutS s.data.toList y z = cs at k11 k23
  generalize cutE s.data.toList y z = ce at k11 k23
  generalize listE s.data.toList = le at k13 k24
  generalize listL s.data.toList = ls at k13 k24 ll
  have HT : Hid _ := Lib.hid hT
  have HF : Hid _ := Lib.hid (And.intro hsl (And.intro hl hf))
  have hb := Below.refl w.heap.size w
  clear hT hsl hl hf
  go_enter Tryd.func4, Tryd.ntmps4
  go_wp2_with (first | (go_at_call 10; ((with_reducible refine (k10 _ hb).mono ?_); rintro e W1 ⟨rfl, hb⟩)) | (go_at_call 14; ((with_reducible refine (k14 _ hb).mono ?_); rintro e W1 ⟨rfl, hb⟩)) | (go_at_call 22; ((with_reducible refine (k22 _ hb).mono ?_); rintro e W1 ⟨rfl, hb⟩)) | (go_at_call 11; ((with_reducible refine (k11 _ hb).mono ?_); rintro e W1 ⟨rfl, hb⟩)) | (go_at_call 23; ((with_reducible refine (k23 _ hb).mono ?_); rintro e W1 ⟨rfl, hb⟩)) | (go_at_call 13; ((with_reducible refine (k13 _ hb).mono ?_); rintro e Wp ⟨p, rfl, hp, hb⟩)) | (go_at_call 24; ((with_reducible refine (k24 _ hb).mono ?_); rintro e Wq ⟨q, rfl, hq, hpq, hb⟩)))
  clear k10 k14 k22 k11 k23 k13 k24
  have hp2 := hp.below hpq (Nat.le_refl _)
  have Tq := HT.out.below hb HT.out.size
  have sl2 := HF.out.1.below hb (Nat.le_refl _)
  have m25 : ∀ W, Below Wq.heap.size Wq W → Calls Tryd.prog 25 #[.slice a n cap] W fun e w' => ∃ v', e = .returned v' ∧ Ints W.heap.size v' l w' ∧ Below Wq.heap.size Wq w' := fun W h =>
    (own_any _ l W (sl2.below h (Nat.le_refl _)) HF.out.2.2 (by have := HF.out.2.1; omega)).mono fun e w' ⟨v', h1, h2, h3⟩ => ⟨v', h1, h2, h.trans (h3.mono h.size)⟩
  have m12 : ∀ v W, Below Wq.heap.size Wq W → Sl v l W → Calls Tryd.prog 12 #[v] W fun e w' => e = .returned (.tuple #[.string (textS l), .int .i64 (textE l)]) ∧ Below Wq.heap.size Wq w' := fun v W h hv =>
    (text_any v l W hv (by have := HF.out.2.1; omega)).mono fun e w' ⟨h1, h3⟩ => ⟨h1, h.trans (h3.mono h.size)⟩
  have m26 : ∀ W, Below Wq.heap.size Wq W → Calls Tryd.prog 26 #[.slice a n cap] W fun e w' => e = .returned (.tuple #[.string (textS l), .int .i64 (textE l)]) ∧ Below Wq.heap.size Wq w' := fun W h =>
    (refText_any _ l W (sl2.below h (Nat.le_refl _)) (by have := HF.out.2.1; omega)).mono fun e w' ⟨h1, h3⟩ => ⟨h1, h.trans (h3.mono h.size)⟩
  have m20 := After.ofT Tq (fun W hW => valid_any s W (by omega) hW)
  have m27 : After Wq 27 _ _ := After.of (fun W => refValid_any s W (by omega))
  have m28 := After.ofT Tq (fun W hW => len_any s W (by omega) hW)
  have m29 : After Wq 29 _ _ := After.of (fun W => refLen_any s W (by omega))
  have m30 : ∀ W, Below Wq.heap.size Wq W → Calls Tryd.prog 30 #[p, q] W fun e w' => e = .returned (.bool true) ∧ Below Wq.heap.size Wq w' := fun W h =>
    (same_any p q ls ls W (hp2.below h (Nat.le_refl _)) (hq.below h (Nat.le_refl _)) (by omega)).mono fun e w' ⟨h1, h3⟩ => ⟨by rw [h1, decide_eq_true rfl], h.trans (h3.mono h.size)⟩
  generalize textS l = ts at m12 m26
  generalize textE l = te at m12 m26
  generalize validD s.data.toList = vd at m20 m27
  generalize lenD s.data.toList = ln at m28 m29
  have HB : Hid _ := Lib.hid hb
  have hc := Below.refl Wq.heap.size Wq
  clear hp hq hp2 hpq Tq sl2 HT HF hb
  go_wp2_with (first | (go_at_call 25; ((with_reducible refine (m25 _ hc).mono ?_); rintro e W3 ⟨vo, rfl, io, hc⟩)) | (go_at_call 12; ((with_reducible refine (m12 _ _ hc io.sl).mono ?_); rintro e W3 ⟨rfl, hc⟩)) | (go_at_call 26; ((with_reducible refine (m26 _ hc).mono ?_); rintro e W3 ⟨rfl, hc⟩)) | (go_at_call 20; ((with_reducible refine (m20 _ hc).mono ?_); rintro e W3 ⟨rfl, hc⟩)) | (go_at_call 27; ((with_reducible refine (m27 _ hc).mono ?_); rintro e W3 ⟨rfl, hc⟩)) | (go_at_call 28; ((with_reducible refine (m28 _ hc).mono ?_); rintro e W3 ⟨rfl, hc⟩)) | (go_at_call 29; ((with_reducible refine (m29 _ hc).mono ?_); rintro e W3 ⟨rfl, hc⟩)) | (go_at_call 30; ((with_reducible refine (m30 _ hc).mono ?_); rintro e W3 ⟨rfl, hc⟩)))
  go_ret
  exact ⟨rfl, HB.out.trans (hc.mono HB.out.size)⟩
theorem calls_any (s : ByteArray) (x y z : Int) (v : Value) (l : List Int) (w : World) (hT : Tabs w) (hx : x ≤ 9223372036854775807) (h : Sl v l w) (hf : v = .slice none 0 0 ∨ ∃ ad n cap, v = .slice (some ad) n cap) :
    Calls Tryd.prog 4 #[.string s, .int .i64 x, .int .i64 y, .int .i64 z, v] w fun e w' => e = .returned (.bool true) ∧ Below w.heap.size w w' := by
  have h0 := h
  obtain ⟨a, cap, rfl, _⟩ := h
  by_cases hl : 2000 < s.size ∨ 2000 < l.length
  · exact calls_long s x y z a l.length cap w hl hT
  · exact calls_core s x y z a l.length cap l w (by omega) (by omega) hT hx h0 rfl hf
end Go.Proofs.YtjajeijeoohpoaaDoor
