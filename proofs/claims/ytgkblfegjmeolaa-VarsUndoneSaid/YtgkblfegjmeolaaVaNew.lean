/- New: variables of which nil and t have values. -/
import Derived.Test.YtgkblfegjmeolaaVaErr
import Derived.Carry
namespace Go.Proofs.Ytgkblfegjmeolaa
open Go.RowKit Go.Lib
/-- A law's variables, and blocks of the law's own beside them. -/
structure VK (w wr : World) (vb : Nat) (G : Nat → Nat) (m : Vs) (ks : List (Nat × Obj)) : Prop where
  below : Below w.heap.size w wr
  vars : VarsAt wr vb G m
  low : ∀ k, k < w.heap.size → G k = 0
  has : ∀ p ∈ ks, wr.heap[p.1]? = some p.2 ∧ G p.1 = 0
theorem VK.junk {w wr wr' : World} {vb : Nat} {G : Nat → Nat} {m : Vs} {ks : List (Nat × Obj)} (h : VK w wr vb G m ks) (hw : Below wr.heap.size wr wr') : VK w wr' vb G m ks :=
  ⟨h.below.trans (hw.mono h.below.size), h.vars.below hw, h.low, fun p hp => by obtain ⟨h1, h2⟩ := h.has p hp; exact ⟨(hw.block _ (lt_at h1)).trans h1, h2⟩⟩
theorem VK.went {w wr w' : World} {vb : Nat} {G : Nat → Nat} {m m' : Vs} {ks : List (Nat × Obj)} (h : VK w wr vb G m ks) (hw : VWent wr w' vb G m') : ∃ G', VK w w' vb G' m' ks := by
  obtain ⟨hk, G', h1, h2⟩ := hw
  exact ⟨G', h.below.trans (hk.below h.below.size h.low), h1, fun k hk' => (h2 k (Nat.lt_of_lt_of_le hk' h.below.size)).2 (h.low k hk'), fun p hp => by obtain ⟨h3, h4⟩ := h.has p hp; exact ⟨(hk.block _ (lt_at h3) h4).trans h3, (h2 _ (lt_at h3)).2 h4⟩⟩
theorem VK.add {w wr wr' : World} {vb b : Nat} {G : Nat → Nat} {m : Vs} {ks : List (Nat × Obj)} {o : Obj} (h : VK w wr vb G m ks) (hw : Below wr.heap.size wr wr') (hb1 : wr.heap.size ≤ b) (ho : wr'.heap[b]? = some o) : VK w wr' vb G m ((b, o) :: ks) :=
  ⟨h.below.trans (hw.mono h.below.size), h.vars.below hw, h.low, fun p hp => by
    rcases List.mem_cons.1 hp with rfl | hp
    · exact ⟨ho, h.vars.new _ hb1⟩
    · exact (h.junk hw).has p hp⟩
/-- What a function that stores into variables needs. -/
structure Stor (w : World) (vb : Nat) (G : Nat → Nat) (m : Vs) (cm : Nat) : Prop where
  cell : ∀ X, Below w.heap.size w X → X.cell? ⟨vb, 0, none⟩ = some (.map (some cm))
  store : ∀ X (K N : Int) (k n : Nat) (c : Cl), Below w.heap.size w X → (k : Int) = K → (n : Int) = N → k ≤ 65536 → n < 16384 → Calls Try.prog 36 #[.map (some cm), .int .i64 K, .int .i64 N, cag c] X fun e w' => e = .returned (.tuple #[]) ∧ VWent w w' vb G (m.put k n c) ∧ w'.cell? ⟨vb, 0, none⟩ = some (.map (some cm))
theorem VarsAt.stor {w : World} {vb : Nat} {G : Nat → Nat} {m : Vs} (h : VarsAt w vb G m) (hc : m.cnt ≤ 1000000) : ∃ cm, Stor w vb G m cm := by
  obtain ⟨cm, mm, bv, sc, cb, h1, h2, h3, hFu, hfin⟩ := h.celled
  refine ⟨cm, fun X hX => (cell_at ((hX.block _ (lt_at h1)).trans h1)).trans rfl, fun X K N k n c hX hK hN hk hn => ?_⟩
  subst hK hN
  have hXs := hX.size
  refine (store_any (h2.below hX) (fun j hj => h.new j (by omega)) k n hk hn hc c hFu).mono ?_
  rintro e w' ⟨he, G', sc', cb', hC, hw, hFu'⟩
  have hV := hfin X w' G' _ _ sc' cb' hX (Nat.le_add_right _ 2) hC hw hFu'
  have hst := (CWent.after hX hw h.new).block
  have e1 := (hst vb (lt_at h1) (by rw [h.lab]; decide) (by rw [h.lab]; decide)).trans h1
  exact ⟨he, hV, cell_at e1⟩
def vs0 : Vs := ⟨fun _ _ => none, 0, fun _ => 0, [], 0⟩
abbrev symC (n : Nat) : Cl := ((1, (n : Int)), true)
def vs1 : Vs := (vs0.put 0 0 (symC 0)).mark 0
def vsN : Vs := (vs1.put 0 1 (symC 1)).mark 1
def vsK (k : Nat) : Vs := if k = 0 then vs0 else if k = 1 then vs1 else vsN
/-- The empty variables. -/
theorem vs0_at (w : World) : VarsAt (((w.alloc (.map #[] 0)).alloc (.map #[] 0)).alloc (.cells #[.map (some w.heap.size), .int .i64 0, .map (some (w.heap.size + 1)), .slice none 0 0] 58)) (w.heap.size + 2) (fun k => if k = w.heap.size then 2 else if k = w.heap.size + 1 then 3 else if k = w.heap.size + 2 then 1 else 0) vs0 := by
  have s1 : (w.alloc (.map #[] 0)).heap.size = w.heap.size + 1 := by simp
  have s2 : ((w.alloc (.map #[] 0)).alloc (.map #[] 0)).heap.size = w.heap.size + 2 := by simp
  have a2 := alloc_at ((w.alloc (.map #[] 0)).alloc (.map #[] 0)) (.cells #[.map (some w.heap.size), .int .i64 0, .map (some (w.heap.size + 1)), .slice none 0 0] 58)
  rw [s2] at a2
  have m0 := MapF.made w mapE
  have m1 := MapF.made (w.alloc (.map #[] 0)) markE
  rw [s1] at m1
  have b1 : Below (w.alloc (.map #[] 0)).heap.size (w.alloc (.map #[] 0)) (((w.alloc (.map #[] 0)).alloc (.map #[] 0)).alloc (.cells #[.map (some w.heap.size), .int .i64 0, .map (some (w.heap.size + 1)), .slice none 0 0] 58)) := ((Below.refl _ _).alloc (Nat.le_refl _) _).alloc (by omega) _
  have b2 : Below ((w.alloc (.map #[] 0)).alloc (.map #[] 0)).heap.size ((w.alloc (.map #[] 0)).alloc (.map #[] 0)) (((w.alloc (.map #[] 0)).alloc (.map #[] 0)).alloc (.cells #[.map (some w.heap.size), .int .i64 0, .map (some (w.heap.size + 1)), .slice none 0 0] 58)) := (Below.refl _ _).alloc (Nat.le_refl _) _
  refine ⟨fun j hj => ?_, by rw [if_neg (by omega), if_neg (by omega), if_pos rfl], by decide, fun n => by show 0 ≤ 3; decide, w.heap.size, w.heap.size + 1, .slice none 0 0, fun _ => none, fun _ _ => none, [], a2, by rw [if_neg (by omega), if_pos rfl], ?_, ?_, (fun k b hk => by cases hk), rfl, Row.nil _ _ _ _ _, (fun b hb => by cases hb)⟩
  · simp at hj
    rw [if_neg (by omega), if_neg (by omega), if_neg (by omega)]
  · exact ⟨if_pos rfl, (m0.move (b1.block _ (by omega))).ext (fun _ => rfl), (fun k b hk => by cases hk), (fun _ _ _ => rfl), (fun k n b hk => by cases hk), (fun _ _ _ => rfl)⟩
  · exact (m1.move (b2.block _ (by omega))).ext fun _ => rfl
theorem vsK_cnt (k : Nat) (hk : k < 2) : (vsK k).cnt ≤ 100 := by
  have : k = 0 ∨ k = 1 := by omega
  rcases this with rfl | rfl <;> decide
theorem vsK_step (k : Nat) (hk : k < 2) : ((vsK k).put 0 k (symC k)).mark k = vsK (k + 1) := by
  have : k = 0 ∨ k = 1 := by omega
  rcases this with rfl | rfl <;> rfl
set_option maxHeartbeats 4000000 in
set_option maxRecDepth 100000 in
theorem new_any (w : World) : Calls Try.prog 9 #[] w fun e w' => ∃ vb G, e = .returned (hptr vb) ∧ VK w w' vb G vsN [] := by
  have h0 := vs0_at w
  have hmm := @run_makeMap Try.prog
  have hb : Below w.heap.size w (((w.alloc (.map #[] 0)).alloc (.map #[] 0)).alloc (.cells #[.map (some w.heap.size), .int .i64 0, .map (some (w.heap.size + 1)), .slice none 0 0] 58)) := (((Below.refl _ _).alloc (Nat.le_refl _) _).alloc (by simp) _).alloc (by simp; omega) _
  have hk : VK w (((w.alloc (.map #[] 0)).alloc (.map #[] 0)).alloc (.cells #[.map (some w.heap.size), .int .i64 0, .map (some (w.heap.size + 1)), .slice none 0 0] 58)) (w.heap.size + 2) (fun k => if k = w.heap.size then 2 else if k = w.heap.size + 1 then 3 else if k = w.heap.size + 2 then 1 else 0) vs0 [] :=
    ⟨hb, h0, fun k hk => by rw [if_neg (by omega), if_neg (by omega), if_neg (by omega)], fun p hp => by cases hp⟩
  have hk2 := hk.add ((Below.refl _ _).alloc (Nat.le_refl _) (.cells #[.int .i64 0, .int .i64 1] 3)) (Nat.le_refl _) (alloc_at _ _)
  have s3 : (((w.alloc (.map #[] 0)).alloc (.map #[] 0)).alloc (.cells #[.map (some w.heap.size), .int .i64 0, .map (some (w.heap.size + 1)), .slice none 0 0] 58)).heap.size = w.heap.size + 3 := by simp
  rw [s3] at hk2
  have HK := Lib.hid hk2
  clear h0 hb hk hk2 s3
  go_enter Try.func9, Try.ntmps9
  go_wp2_with fail
  generalize ((((w.alloc (.map #[] 0)).alloc (.map #[] 0)).alloc (.cells #[.map (some w.heap.size), .int .i64 0, .map (some (w.heap.size + 1)), .slice none 0 0] 58)).alloc (.cells #[.int .i64 0, .int .i64 1] 3)) = W0 at *
  clear hmm
  go_loopw [10] (fun i wr => ∃ (k : Nat) (G : Nat → Nat), i = .int .i64 k ∧ k ≤ 2 ∧ VK w wr (w.heap.size + 2) G (vsK k) [(w.heap.size + 3, .cells #[.int .i64 0, .int .i64 1] 3)]) (fun i _ => 2 - (RowKit.intOf i).toNat)
  case atStart => exact ⟨0, _, rfl, by decide, HK.out⟩
  case round =>
    obtain ⟨k, G, rfl, hk, hv⟩ := hrel
    by_cases hlt : (k : Int) < 2
    · have hk2 : k < 2 := by omega
      have hcell : wr.cell? ⟨w.heap.size + 3, k, none⟩ = some (.int .i64 k) := by
        have : k = 0 ∨ k = 1 := by omega
        rw [cell_at (hv.has _ (.head _)).1]
        rcases this with rfl | rfl <;> rfl
      obtain ⟨cm, hS⟩ := hv.vars.stor (by have := vsK_cnt k hk2; omega)
      have HS := Lib.hid hS
      have HV := Lib.hid hv
      have HX := Lib.hid hk2
      clear hv hk hk2 hS
      go_wp2_with fail
      have HK2 := Lib.hid (show Below wr.heap.size wr wr.drew from (Below.refl _ _).drew)
      go_region_held3 (fun X => X.cell? ⟨w.heap.size + 2, 0, none⟩ = some (.map (some cm)))
        (first | with_reducible exact HS.out.cell _ HK2.out | with_reducible exact HZ.out)
        (first
          | (go_at_call 37; (with_reducible refine (full_any (1, (k : Int)) _).mono ?_); rintro e wq ⟨rfl, hb⟩; have HK3 := Lib.hid (HK2.out.trans (hb.mono HK2.out.size)); clear HK2 hb; have HK2 := HK3; clear HK3)
          | (go_at_call 36; (with_reducible refine (HS.out.store _ 0 (k : Int) 0 k _ HK2.out rfl rfl (by decide) (by have := HX.out; omega)).mono ?_); rintro e wq ⟨rfl, hV, hz⟩; have HW := Lib.hid hV; have HZ := Lib.hid hz; clear hV hz))
      obtain ⟨G2, h2⟩ := HV.out.went HW.out
      have H2 := Lib.hid h2
      clear h2 HV HW HS HZ hcell
      go_wp2_with fail
      refine (markconst_ok H2.out.vars k (by have := HX.out; omega) (by have := vsK_cnt k HX.out; simp only [Vs.put]; omega)).mono ?_
      rintro e w3 ⟨rfl, hV⟩
      obtain ⟨G3, h3⟩ := H2.out.went hV
      rw [vsK_step k HX.out] at h3
      have H3 := Lib.hid h3
      clear h3 hV H2
      go_wp2
      go_roundw
      case rel => exact ⟨k + 1, G3, by go_num, by have := HX.out; omega, H3.out⟩
      case measure => simp [RowKit.intOf]; omega
    · obtain rfl : k = 2 := by omega
      have HV := Lib.hid hv
      clear hv hk
      go_wp2
      go_ret
      obtain ⟨h1, h2, h3, _⟩ := HV.out
      exact ⟨w.heap.size + 2, rfl, G, h1, h2, h3, fun p hp => by cases hp⟩
end Go.Proofs.Ytgkblfegjmeolaa
