/- The contract of the names laws' lives; a table that a law holds. Condition: unicode/utf8's two tables hold what the program's text lays. -/
import Derived.Test.YtponbhhkccpbfaaDoorNmNew2
import Derived.Deep.LoopGhost
namespace Go.Proofs.YtponbhhkccpbfaaDoor
open Go.RowKit Go.Lib Go.Shelf
/-- A law's table. -/
structure TInv (w wr : World) (tb : Nat) (G : Nat → Nat) (m : Tb) : Prop where
  below : Below w.heap.size w wr
  table : TableAt wr tb G m
  low : ∀ k, k < w.heap.size → G k = 0
theorem TInv.junk {w wr wr' : World} {tb : Nat} {G : Nat → Nat} {m : Tb} (h : TInv w wr tb G m) (hw : Below wr.heap.size wr wr') : TInv w wr' tb G m := ⟨h.below.trans (hw.mono h.below.size), h.table.below hw, h.low⟩
theorem TInv.went {w wr w' : World} {tb : Nat} {G : Nat → Nat} {m m' : Tb} (h : TInv w wr tb G m) (hw : WentT wr w' tb G m') : ∃ G', TInv w w' tb G' m' ∧ ∀ k, k < wr.heap.size → (G' k = 0 ↔ G k = 0) := by
  obtain ⟨hk, G', h1, h2⟩ := hw
  exact ⟨G', ⟨h.below.trans (hk.below h.below.size h.low), h1, fun k hk' => (h2 k (Nat.lt_of_lt_of_le hk' h.below.size)).2 (h.low k hk')⟩, h2⟩
theorem TInv.of_new {w wr w' : World} {tb : Nat} {G : Nat → Nat} {m : Tb} (hb : Below w.heap.size w wr) (hw : Below wr.heap.size wr w') (h : TableAt w' tb G m) (hl : ∀ k, k < wr.heap.size → G k = 0) : TInv w w' tb G m :=
  ⟨hb.trans (hw.mono hb.size), h, fun k hk => hl k (Nat.lt_of_lt_of_le hk hb.size)⟩
def carS : ByteArray := ⟨#[99, 97, 114]⟩
theorem ck_car : ckD carS = 0 := by decide +kernel
theorem tbN_find (s : ByteArray) : tbN.find s = (fixedN.map fun s => fy s true).findIdx? fun y => y.intd && decide (y.name.data.toList = s.data.toList) := by
  unfold Tb.find tbN
  rw [addAll_syms]
theorem find_car : tbN.find carS = none := by
  rw [tbN_find]
  decide +kernel
def tb1 : Tb := tbN.add (fy carS true)
def tb2 : Tb := tb1.add (fy carS false)
theorem tb1_length : tb1.syms.length = 63 := by simp [tb1, Tb.add, tbN_length]
theorem tb1_find : tb1.find carS = some 62 := by
  unfold tb1
  rw [Tb.find_add, find_car]
  simp [tbN_length]
theorem tb2_find : tb2.find carS = some 62 := by
  unfold tb2
  rw [Tb.find_add, tb1_find]
theorem tb2_length : tb2.syms.length = 64 := by simp [tb2, Tb.add, tb1_length]
theorem intern1 : tbN.intern carS = (62, 0, tb1) := by
  unfold Tb.intern
  rw [if_neg (by rw [ck_car]; decide), find_car]
  simp only [tbN_length]
  rfl
theorem intern2 : tb1.intern carS = (62, 0, tb1) := by
  unfold Tb.intern
  rw [if_neg (by rw [ck_car]; decide), tb1_find]
  rfl
theorem fresh3 : tb1.fresh carS = (63, 0, tb2) := by
  unfold Tb.fresh
  rw [if_neg (by rw [ck_car]; decide), if_neg (by rw [tb1_length]; decide), tb1_length]
  rfl
theorem found4 : tb2.found carS = (62, true) := by
  unfold Tb.found
  rw [tb2_find]
  rfl
set_option maxHeartbeats 2000000 in
theorem lives_any (w : World) (hT : Tabs w) : Calls Tryd.prog 9 #[] w fun e w' => e = .returned (.bool true) ∧ Below w.heap.size w w' := by
  have HT := Lib.hid hT
  clear hT
  go_enter Tryd.func9, Tryd.ntmps9
  go_wp2_with fail
  refine (new_any w).mono ?_
  rintro e W1 ⟨tb, G1, rfl, hb1, h1, hl1⟩
  have H1 := Lib.hid (TInv.of_new (Below.refl _ _) hb1 h1 hl1)
  clear hb1 h1 hl1
  go_wp2_with fail
  have c2 := intern_any H1.out.table (by rw [tbN_length]; decide) carS (by decide) (HT.out.below H1.out.below HT.out.size)
  rw [intern1] at c2
  refine c2.mono ?_
  rintro e W2 ⟨rfl, hw2⟩
  obtain ⟨G2, h2, _⟩ := H1.out.went hw2
  have H2 := Lib.hid h2
  clear hw2 h2 c2 H1
  go_wp2_with fail
  have c3 := intern_any H2.out.table (by rw [tb1_length]; decide) carS (by decide) (HT.out.below H2.out.below HT.out.size)
  rw [intern2] at c3
  refine c3.mono ?_
  rintro e W3 ⟨rfl, hw3⟩
  obtain ⟨G3, h3, _⟩ := H2.out.went hw3
  have H3 := Lib.hid h3
  clear hw3 h3 c3 H2
  go_wp2_with fail
  have c4 := fresh_any H3.out.table (by rw [tb1_length]; decide) carS (by decide) (HT.out.below H3.out.below HT.out.size)
  rw [fresh3] at c4
  refine c4.mono ?_
  rintro e W4 ⟨rfl, hw4⟩
  obtain ⟨G4, h4, _⟩ := H3.out.went hw4
  have H4 := Lib.hid h4
  clear hw4 h4 c4 H3
  go_wp2_with fail
  have c5 := find_any H4.out.table (by rw [tb2_length]; decide) carS (by decide)
  rw [found4] at c5
  refine c5.mono ?_
  rintro e W5 ⟨rfl, rfl⟩
  go_wp2
  go_ret
  exact ⟨rfl, H4.out.below⟩
end Go.Proofs.YtponbhhkccpbfaaDoor
