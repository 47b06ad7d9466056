/- The contract of Copy on a heap that stands. -/
import Derived.Test.YtleppjdmcjocmaaDoorHpCopyDone
namespace Go.Proofs.YtleppjdmcjocmaaDoor
open Go.RowKit Go.Lib
theorem Hp.cell_le {m : Hp} {i : Nat} {o : Ob} (h : m.obs[i]? = some (some o)) (ht : total m.obs ≤ 65536) : o.size ≤ 65536 := Nat.le_trans (osize_le h) ht
set_option maxRecDepth 20000 in
set_option maxHeartbeats 4000000 in
theorem copy_each {w : World} {hb : Nat} {G : Nat → Nat} {m : Hp} (h : HeapAt w hb G m) (hl : m.obs.length ≤ 65536) (ht : ∀ (i : Nat) (o : Ob), m.obs[i]? = some (some o) → o.size ≤ 65536) :
    Calls Tryd.prog 21 #[hptr hb] w fun e w' => ∃ hb2 G2, e = .returned (hptr hb2) ∧ Below w.heap.size w w' ∧ HeapAt w' hb2 G2 m ∧ ∀ k, k < w.heap.size → G2 k = 0 := by
  have CV := Lib.hid h.valid
  have H0 := Lib.hid h
  obtain ⟨vo, vf, xs, k0, r1, r2, r3⟩ := h.lies
  obtain ⟨ao, co, rfl⟩ := r1.slice
  obtain ⟨af, cf, rfl⟩ := r2.slice
  have c0 : w.cell? ⟨hb, 0, none⟩ = some (.int .i64 m.lim) := cell_at k0
  have c1 : w.cell? ⟨hb, 1, none⟩ = some (.slice ao m.obs.length co) := cell_at k0
  have c2 : w.cell? ⟨hb, 2, none⟩ = some (.slice af m.free.length cf) := cell_at k0
  have c3 : w.cell? ⟨hb, 3, none⟩ = some (.int .i64 (total m.obs)) := cell_at k0
  have z1 := h.lt
  have hmk := make_objs m.obs.length hl
  have HR := Lib.hid (And.intro k0 (And.intro r1 (And.intro r2 (And.intro r3 (And.intro c0 (And.intro c2 c3))))))
  clear h r1 r2 r3 k0 c0 c2 c3
  go_enter Tryd.func21, Tryd.ntmps21
  go_wp2_with fail
  refine (CV.out _ (Old.refl _)).mono ?_
  rintro e W ⟨rfl, rfl⟩
  clear CV
  go_wp2_with fail
  have hd0 := CopyAt.start W m.obs
  have HS := Lib.hid hd0
  have HZ := Lib.hid z1
  generalize W.alloc (.cells (madeCells #[.nilIface] m.obs.length) 80) = Wa at *
  clear hmk hd0 z1 c1
  go_loopw [20] (fun i wr => ∃ (k : Nat) (G2 : Nat → Nat), i = .int .i64 k ∧ k ≤ m.obs.length ∧ Hid (CopyAt W wr W.heap.size G2 m.obs k)) (fun i _ => m.obs.length - (RowKit.intOf i).toNat)
  case atStart => exact ⟨0, _, rfl, Nat.zero_le _, HS⟩
  case round =>
    obtain ⟨k, G2, rfl, hk, HC⟩ := hrel
    by_cases hlt : (k : Int) < (m.obs.length : Int)
    · obtain ⟨o, hob⟩ : ∃ o, m.obs[k]? = some o := ⟨m.obs[k]'(by omega), List.getElem?_eq_getElem _⟩
      obtain ⟨v, hv, hop⟩ := HR.out.2.2.2.1 k o hob
      obtain ⟨g, c, cur, e1, hg2, hgh, h1, h2, h3, h4⟩ := HR.out.2.1.at (by omega)
      cases e1
      have hop2 : OpAt wr G (4 + k) v o := hop.keep (by omega) (fun j hj _ => HC.out.below.block j hj) (fun _ _ e => e)
      have q0 : wr.cell? ⟨g, k, none⟩ = some v := (HC.out.below.cell (p := ⟨g, k, none⟩) (lt_at hgh)).trans ((cell_at hgh).trans (by
        rw [← h4, List.getElem?_take_of_lt (by omega)] at hv
        simpa using hv))
      obtain ⟨ys, hys, hyh, hyr⟩ := HC.out.row
      have hyl := lt_at hyh
      obtain ⟨vk, hvk, _⟩ := hyr k o hob
      have d0 : wr.cell? ⟨W.heap.size, k, none⟩ = some vk := (cell_at hyh).trans (by simpa using hvk)
      have f0 : wr.frozen? ⟨W.heap.size, k, none⟩ = false := frozen_at hyh
      clear hyr hyh hys hvk hop h1 h2 h3 h4 hgh hg2 hv
      cases o with
      | none =>
        cases hop2
        go_wp2
        go_roundw
        case rel => exact ⟨k + 1, G2, by go_num, by omega, Lib.hid (HC.out.skip hob)⟩
        case measure => simp [RowKit.intOf]; omega
      | some o =>
        have HV := Lib.hid hop2
        have hsz := ht _ _ hob
        clear hop2
        cases o with
        | pair x y =>
          obtain ⟨b, rfl, _, _⟩ := HV.out
          have hmt := mt_clone_pair b
          go_wp2_with fail
          refine (clone_pair_ob x y HV.out).mono ?_
          rintro e W1 ⟨T1, p1, Gn, rfl, hb1, hG1, hob1⟩
          have d1 : W1.cell? ⟨W.heap.size, k, none⟩ = some vk := (hb1.cell (p := ⟨W.heap.size, k, none⟩) hyl).trans d0
          have f1 : W1.frozen? ⟨W.heap.size, k, none⟩ = false := (hb1.frozen (p := ⟨W.heap.size, k, none⟩) hyl).trans f0
          have H1 := Lib.hid (HC.out.step hob hb1 hG1 hob1 rfl)
          clear hb1 hG1 hob1 HV q0 d0 f0 hmt hyl
          go_wp2
          go_roundw
          case rel => exact ⟨k + 1, _, by go_num, by omega, H1⟩
          case measure => simp [RowKit.intOf]; omega
        | text s n =>
          obtain ⟨b, rfl, _, _⟩ := HV.out
          have hmt := mt_clone_text b
          go_wp2_with fail
          refine (clone_text_ob s n HV.out).mono ?_
          rintro e W1 ⟨T1, p1, Gn, rfl, hb1, hG1, hob1⟩
          have d1 : W1.cell? ⟨W.heap.size, k, none⟩ = some vk := (hb1.cell (p := ⟨W.heap.size, k, none⟩) hyl).trans d0
          have f1 : W1.frozen? ⟨W.heap.size, k, none⟩ = false := (hb1.frozen (p := ⟨W.heap.size, k, none⟩) hyl).trans f0
          have H1 := Lib.hid (HC.out.step hob hb1 hG1 hob1 rfl)
          clear hb1 hG1 hob1 HV q0 d0 f0 hmt hyl
          go_wp2
          go_roundw
          case rel => exact ⟨k + 1, _, by go_num, by omega, H1⟩
          case measure => simp [RowKit.intOf]; omega
        | vec l =>
          obtain ⟨b, sv, rfl, _, _, _⟩ := HV.out
          have hmt := mt_clone_vector b
          go_wp2_with fail
          refine (clone_vec_ob l (by simpa [Ob.size] using hsz) HV.out).mono ?_
          rintro e W1 ⟨T1, p1, Gn, rfl, hb1, hG1, hob1⟩
          have d1 : W1.cell? ⟨W.heap.size, k, none⟩ = some vk := (hb1.cell (p := ⟨W.heap.size, k, none⟩) hyl).trans d0
          have f1 : W1.frozen? ⟨W.heap.size, k, none⟩ = false := (hb1.frozen (p := ⟨W.heap.size, k, none⟩) hyl).trans f0
          have H1 := Lib.hid (HC.out.step hob hb1 hG1 hob1 rfl)
          clear hb1 hG1 hob1 HV q0 d0 f0 hmt hyl
          go_wp2
          go_roundw
          case rel => exact ⟨k + 1, _, by go_num, by omega, H1⟩
          case measure => simp [RowKit.intOf]; omega
        | code le mo de bs cs =>
          obtain ⟨b, sv, cv, rfl, _, _, _, _⟩ := HV.out
          have hmt := mt_clone_code b
          go_wp2_with fail
          refine (clone_code_ob le mo de bs cs (by simp [Ob.size] at hsz; omega) (by simp [Ob.size] at hsz; omega) HV.out).mono ?_
          rintro e W1 ⟨T1, p1, Gn, rfl, hb1, hG1, hob1⟩
          have d1 : W1.cell? ⟨W.heap.size, k, none⟩ = some vk := (hb1.cell (p := ⟨W.heap.size, k, none⟩) hyl).trans d0
          have f1 : W1.frozen? ⟨W.heap.size, k, none⟩ = false := (hb1.frozen (p := ⟨W.heap.size, k, none⟩) hyl).trans f0
          have H1 := Lib.hid (HC.out.step hob hb1 hG1 hob1 rfl)
          clear hb1 hG1 hob1 HV q0 d0 f0 hmt hyl
          go_wp2
          go_roundw
          case rel => exact ⟨k + 1, _, by go_num, by omega, H1⟩
          case measure => simp [RowKit.intOf]; omega
    · have hkn : k = m.obs.length := by omega
      subst hkn
      have hlb := H0.out.lt
      have c0 := (HC.out.below.cell (p := ⟨hb, 0, none⟩) hlb).trans HR.out.2.2.2.2.1
      have c2 := (HC.out.below.cell (p := ⟨hb, 2, none⟩) hlb).trans HR.out.2.2.2.2.2.1
      have c3 := (HC.out.below.cell (p := ⟨hb, 3, none⟩) hlb).trans HR.out.2.2.2.2.2.2
      have hlb2 := Nat.lt_of_lt_of_le hlb HC.out.below.size
      have CI := Lib.hid (fun V (hV : Below wr.heap.size wr V) => copy_int _ m.free.length (m.free.map (Value.int .i64)) V ((HR.out.2.2.1.src).below (HC.out.below.trans (hV.mono HC.out.below.size)) (fun k hk => HR.out.2.2.1.lt k hk))
        (fun u hu => by obtain ⟨x, _, rfl⟩ := List.mem_map.1 hu; rfl) (by have := H0.out.ok.free_len; omega))
      go_wp2_with fail
      go_region_held3 (fun w' => w'.cell? ⟨hb, 0, none⟩ = some (.int .i64 m.lim) ∧ w'.cell? ⟨hb, 2, none⟩ = some (.slice af m.free.length cf) ∧ w'.cell? ⟨hb, 3, none⟩ = some (.int .i64 (total m.obs))) (first | exact ⟨r0, r2, r3⟩ | exact ⟨c0, c2, c3⟩ | go_keep)
        (first
        | (go_at_call 47; refine (CI.out _ ?_).mono ?_; (first | exact Below.refl _ _ | exact (Below.refl _ _).drew); rintro e w2 ⟨vf2, rfl, ho, hb2⟩; obtain ⟨a2, cx, rfl⟩ := own_slice ho; have r0 := (hb2.cell (p := ⟨hb, 0, none⟩) hlb2).trans c0; have r2 := (hb2.cell (p := ⟨hb, 2, none⟩) hlb2).trans c2; have r3 := (hb2.cell (p := ⟨hb, 3, none⟩) hlb2).trans c3; have HO := Lib.hid (And.intro ho hb2); clear ho hb2))
      all_goals (go_wp2_with fail; go_ret)
      all_goals exact ⟨_, _, rfl, CopyAt.done H0.out hl HC.out HO.out.1 (((Below.refl _ _).drew).trans HO.out.2)⟩
theorem copy_any {w : World} {hb : Nat} {G : Nat → Nat} {m : Hp} (h : HeapAt w hb G m) (hl : m.obs.length ≤ 65536) (ht : total m.obs ≤ 65536) :
    Calls Tryd.prog 21 #[hptr hb] w fun e w' => ∃ hb2 G2, e = .returned (hptr hb2) ∧ Below w.heap.size w w' ∧ HeapAt w' hb2 G2 m ∧ ∀ k, k < w.heap.size → G2 k = 0 :=
  copy_each h hl fun _ _ ho => Hp.cell_le ho ht
end Go.Proofs.YtleppjdmcjocmaaDoor
