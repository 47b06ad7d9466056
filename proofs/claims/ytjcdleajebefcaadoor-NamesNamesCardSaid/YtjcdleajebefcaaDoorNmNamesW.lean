/- The walk of the law NamesNames. Condition: unicode/utf8's two tables hold what the program's text lays. -/
import Derived.Test.YtjcdleajebefcaaDoorNmNames
namespace Go.Proofs.YtjcdleajebefcaaDoor
open Go.RowKit Go.Lib Go.Shelf
/-- The table and the block of the fixed names beside it. -/
structure FInv (w wr : World) (tb : Nat) (G : Nat → Nat) (lb : Nat) : Prop where
  t : TInv w wr tb G tbN
  z : G lb = 0
  b : wr.heap[lb]? = some (.cells (fixedN.map Value.string).toArray 9)
theorem FInv.went {w wr w' : World} {tb : Nat} {G : Nat → Nat} {lb : Nat} (h : FInv w wr tb G lb) (hw : WentT wr w' tb G tbN) : ∃ G', FInv w w' tb G' lb := by
  obtain ⟨G', h1, h2⟩ := h.t.went hw
  exact ⟨G', h1, (h2 _ (lt_at h.b)).2 h.z, (hw.keeps.block _ (lt_at h.b) h.z).trans h.b⟩
theorem FInv.cell {w wr : World} {tb : Nat} {G : Nat → Nat} {lb k : Nat} {s : ByteArray} (h : FInv w wr tb G lb) (hs : fixedN[k]? = some s) : wr.cell? ⟨lb, k, none⟩ = some (.string s) := by
  rw [cell_at h.b]
  simp [hs]
set_option maxHeartbeats 60000000 in
set_option maxRecDepth 100000 in
theorem names_any (w : World) (hT : Tabs w) : Calls Tryd.prog 3 #[] w fun e w' => e = .returned (.bool true) ∧ Below w.heap.size w w' := by
  have HT := Lib.hid hT
  clear hT
  go_enter Tryd.func3, Tryd.ntmps3
  go_wp2_with fail
  refine (lives_any _ HT.out).mono ?_
  rintro e W0 ⟨rfl, hb0⟩
  have H0 := Lib.hid hb0
  clear hb0
  go_wp2_with fail
  refine (new_any _).mono ?_
  rintro e W1 ⟨tb, G1, rfl, hb1, h1, hlow1⟩
  have H1 := Lib.hid (TInv.of_new H0.out hb1 h1 hlow1)
  clear hb1 h1 hlow1 H0
  go_wp2_with fail
  refine (fixed_any _).mono ?_
  rintro e W2 ⟨rfl, hW2⟩
  have h2 : FInv w W2 tb G1 W1.heap.size := ⟨H1.out.junk (by rw [hW2]; exact (Below.refl _ _).alloc (Nat.le_refl _) _), H1.out.table.new _ (Nat.le_refl _), by rw [hW2]; exact alloc_at W1 _⟩
  have H2 := Lib.hid h2
  generalize W1.heap.size = lb at *
  clear hW2 h2 H1
  clear W1
  go_wp2_with fail
  go_loopg [3] 62 (fun gk kv wr => ∃ (k : Nat) (G : Nat → Nat), gk = 62 - k ∧ kv = .int .i64 k ∧ k ≤ 62 ∧ Hid (FInv w wr tb G lb))
  case atStart => exact ⟨0, G1, rfl, rfl, by omega, H2⟩
  case round =>
    obtain ⟨k, G, hgk, rfl, hk, HM⟩ := hrel
    have HGK := Lib.hid hgk
    clear hgk
    by_cases hlt : (k : Int) < 62
    · have hk2 : k < 62 := by omega
      have hs : fixedN[k]? = some fixedN[k] := List.getElem?_eq_getElem (by rw [fixed_length]; exact hk2)
      obtain ⟨s, hs2⟩ : ∃ s, fixedN[k]? = some s := ⟨_, hs⟩
      clear hs
      have hc := HM.out.cell hs2
      have cN := name_ok HM.out.t.table (fixed_sym k s hs2)
      have CN := Lib.hid cN
      have HS := Lib.hid hs2
      clear cN hs2
      go_wp2_with fail
      refine CN.out.mono ?_
      rintro e Wn ⟨rfl, rfl⟩
      go_wp2_with fail
      have c3 := intern_any HM.out.t.table (by rw [tbN_length]; decide) s (by have := fixed_short s (List.mem_of_getElem? HS.out); omega) (HT.out.below HM.out.t.below HT.out.size)
      rw [intern_found tbN s k (fixed_ck s (List.mem_of_getElem? HS.out)) (fixed_find k s HS.out)] at c3
      refine c3.mono ?_
      rintro e Wi ⟨rfl, hwi⟩
      obtain ⟨G3, h3⟩ := HM.out.went hwi
      have H3 := Lib.hid h3
      clear hwi c3 h3 hc
      have hc := H3.out.cell HS.out
      have cI := interned_ok H3.out.t.table (fixed_sym k s HS.out)
      have CI := Lib.hid cI
      clear cI
      go_wp2_with fail
      refine CI.out.mono ?_
      rintro e Wz ⟨rfl, rfl⟩
      go_wp2_with fail
      go_roundg (62 - (k + 1))
      case measure => have := HGK.out; omega
      case rel => exact ⟨k + 1, G3, rfl, by go_num, hk2, H3⟩
    · have hk2 : k = 62 := by omega
      subst hk2
      clear hk hlt HGK
      go_wp2_with fail
      have c3 := intern_any HM.out.t.table (by rw [tbN_length]; decide) ⟨#[255]⟩ (by decide) (HT.out.below HM.out.t.below HT.out.size)
      rw [intern_ff] at c3
      refine c3.mono ?_
      rintro e Wi ⟨rfl, hwi⟩
      obtain ⟨G3, h3, _⟩ := HM.out.t.went hwi
      have H3 := Lib.hid (show TInv w Wi tb G3 tbN from h3)
      clear hwi c3 h3 HM
      go_wp2_with fail
      obtain ⟨r1, hr1⟩ : ∃ r, rpt aS 1001 = r := ⟨_, rfl⟩
      have cT := times_any aS 1001 Wi (by decide) (by decide)
      rw [hr1] at cT
      have h1 : tbN.fresh r1 = (0, 4, tbN) := by rw [← hr1]; exact fresh_long
      have h2 : r1.size = 1001 := by rw [← hr1, rpt_size]; rfl
      have HR1 := Lib.hid (And.intro h1 h2)
      clear hr1 h1 h2
      refine cT.mono ?_
      rintro e Wt ⟨rfl, rfl⟩
      clear cT
      go_wp2_with fail
      have c4 := fresh_any H3.out.table (by rw [tbN_length]; decide) r1 (by have := HR1.out.2; omega) (HT.out.below H3.out.below HT.out.size)
      rw [HR1.out.1] at c4
      refine c4.mono ?_
      rintro e Wj ⟨rfl, hwj⟩
      obtain ⟨G4, h4, _⟩ := H3.out.went hwj
      have H4 := Lib.hid (show TInv w Wj tb G4 tbN from h4)
      clear hwj c4 h4 H3
      go_wp2_with fail
      obtain ⟨r2, hr2⟩ : ∃ r, rpt eS 1000 = r := ⟨_, rfl⟩
      have cT := times_any eS 1000 Wj (by decide) (by decide)
      rw [hr2] at cT
      have h1 : tbN.intern r2 = (62, 0, tbE) := by rw [← hr2]; exact intern_long2
      have h2 : r2.size = 2000 := by rw [← hr2, rpt_size]; rfl
      have HR2 := Lib.hid (And.intro h1 h2)
      clear hr2 h1 h2
      refine cT.mono ?_
      rintro e Wt ⟨rfl, rfl⟩
      clear cT
      go_wp2_with fail
      have c5 := intern_any H4.out.table (by rw [tbN_length]; decide) r2 (by have := HR2.out.2; omega) (HT.out.below H4.out.below HT.out.size)
      rw [HR2.out.1] at c5
      refine c5.mono ?_
      rintro e Wk ⟨rfl, hwk⟩
      obtain ⟨G5, h5, _⟩ := H4.out.went hwk
      have H5 := Lib.hid (show TInv w Wk tb G5 tbE from h5)
      clear hwk c5 h5 H4
      go_wp2_with fail
      refine (name_no H5.out.table (by rw [tbE_length]; decide) (-1) (.inl (by decide))).mono ?_
      rintro e Wl ⟨rfl, rfl⟩
      go_wp2_with fail
      refine (tintern_nil _ _).mono ?_
      rintro e Wm ⟨rfl, rfl⟩
      have hmany := H5.out.table.many (by rw [tbE_length]; decide)
      rw [tbE_length] at hmany
      have HM := Lib.hid hmany
      clear hmany
      go_wp2_with fail
      refine HM.out.mono ?_
      rintro e Wn ⟨rfl, rfl⟩
      clear HM
      go_wp2_with fail
      refine (nil_any _).mono ?_
      rintro e Wo ⟨rfl, hbo⟩
      have H6 := Lib.hid (H5.out.junk hbo)
      clear hbo H5
      go_wp2_with fail
      refine (setf_err (.pointer none) 3 (1, 0) 1 _ rfl (fun W _ => checkf_nil 3 W)).mono ?_
      rintro e Wp ⟨rfl, hbp⟩
      have H7 := Lib.hid (H6.out.junk hbp)
      clear hbp H6
      go_wp2_with fail
      refine (tmany_nil _).mono ?_
      rintro e Wq ⟨rfl, rfl⟩
      go_wp2_with fail
      refine (tcopy_nil _).mono ?_
      rintro e Wr ⟨rfl, rfl⟩
      go_wp2_with fail
      refine (int_any 5 _).mono ?_
      rintro e Ws ⟨rfl, hbs⟩
      have H8 := Lib.hid (H7.out.junk hbs)
      clear hbs H7
      go_wp2_with fail
      refine (setf_err (hptr tb) 1 (0, 5) 10 _ rfl (fun W hW => checkf_t (H8.out.junk hW).table (by rw [tbE_length]; decide))).mono ?_
      rintro e Wu ⟨rfl, hbu⟩
      have H9 := Lib.hid (H8.out.junk hbu)
      clear hbu H8
      go_wp2_with fail
      refine (int_any 5 _).mono ?_
      rintro e Wv ⟨rfl, hbv⟩
      have H10 := Lib.hid (H9.out.junk hbv)
      clear hbv H9
      go_wp2_with fail
      refine (setf_err (hptr tb) 100 (0, 5) 8 _ rfl (fun W hW => checkf_no (H10.out.junk hW).table (by rw [tbE_length]; decide) 100 (.inr (by rw [tbE_length]; decide)))).mono ?_
      rintro e Wx ⟨rfl, hbx⟩
      have H11 := Lib.hid (H10.out.junk hbx)
      clear hbx H10
      go_wp2
      go_ret
      exact ⟨rfl, H11.out.below⟩
end Go.Proofs.YtjcdleajebefcaaDoor
