/- The contract of reached: which objects can be reached from the roots. -/
import Derived.Test.YtleppjdmcjocmaaDoorHpEach
import Derived.Test.YtleppjdmcjocmaaDoorHpHolds1
import Derived.Laws.MakeOwn
namespace Go.Proofs.YtleppjdmcjocmaaDoor
open Go.RowKit Go.Lib
theorem info_bool : (Tryd.prog.info? 4).map (fun i => (i.zero, i.size, i.bytes)) = some (some (.bool false), 1, 1) := by kernel_rfl
theorem make_bools (n : Nat) (hn : n ≤ 65536) (w : World) : (Instr.makeSlice 56 (.int .i64 n) (.int .i64 n)).run Tryd.prog w = .ok (.slice (some ⟨w.heap.size, 0, none⟩) n n) (w.alloc (.cells (madeCells #[.bool false] n) 4)) := by
  obtain ⟨i0, hi0, hz0, hz1, hz2⟩ := info_parts info_bool
  have h := run_make (P := Tryd.prog) w 56 4 i0 (.bool false) Tryd.underlying56 hi0 hz0 .i64 .i64 n n (by omega) (Int.le_refl _) (by rw [hz2]; omega) (by omega)
  simpa [hz1, Value.cells] using h
/-- The walk's variables at its start. -/
theorem Dfs.start {w w' : World} {hb : Nat} {G : Nat → Nat} {m : Hp} (hl : m.obs.length ≤ 65536) (hw : Below w.heap.size w w')
    (k0 : w'.heap[w.heap.size]? = some (.cells #[hptr hb] 23 (0, 0))) (k1 : w'.heap[w.heap.size + 1]? = some (.cells (madeCells #[.bool false] m.obs.length) 4 (0, 0)))
    (k2 : w'.heap[w.heap.size + 2]? = some (.cells #[.slice (some ⟨w.heap.size + 1, 0, none⟩) m.obs.length m.obs.length] 56 (0, 0))) (k3 : w'.heap[w.heap.size + 3]? = some (.cells #[.slice none 0 0] 64 (0, 0))) :
    Dfs w w' hb G m w.heap.size (w.heap.size + 2) (w.heap.size + 3) (List.replicate m.obs.length false, []) := by
  have h3 := lt_at k3
  refine ⟨hw, by simp, by simp, fun k => if k = w.heap.size then 1 else if k = w.heap.size + 2 then 2 else if k = w.heap.size + 3 then 3 else if k = w.heap.size + 1 then 4 else 0, _, _, [], ?_, ?_, ?_, fun k hk => ?_, fun k hk => ?_, k0, k2, k3, ⟨⟨by simp [bools], .inr ⟨_, _, _, rfl, Nat.zero_le _, k1, Nat.le_refl _, by unfold maxLen; omega, by simp [size_madeCells], ?_⟩⟩, fun k hk => ?_⟩, Row.nil _ _ _ _ _, fun j i hj => by simp at hj⟩
  · simp
  · simp
  · simp
  · exact (if_neg (by omega)).trans ((if_neg (by omega)).trans ((if_neg (by omega)).trans (if_neg (by omega))))
  · exact (if_neg (by omega)).trans ((if_neg (by omega)).trans ((if_neg (by omega)).trans (if_neg (by omega))))
  · rw [toList_madeCells_one]; simp [bools]
  · cases hk; simp
/-- The last of the stack is taken away. -/
theorem Dfs.pop {W0 w : World} {hb : Nat} {G : Nat → Nat} {m : Hp} {bh br bs : Nat} {b : List Bool} {st : List Nat} {i : Nat} (h : Dfs W0 w hb G m bh br bs (b, st ++ [i])) :
    ∃ (g cap : Nat) (o : Ob) (T : TypeId) (p : Nat), w.heap[bs]? = some (.cells #[.slice (some ⟨g, 0, none⟩) (st.length + 1) cap] 64 (0, 0)) ∧ st.length + 1 ≤ cap ∧ g < w.heap.size ∧ w.cell? ⟨g, st.length, none⟩ = some (.iface T (.pointer (some ⟨p, 0, none⟩))) ∧ m.obs[i]? = some (some o) ∧
      ObAt W0 G (4 + i) (.iface T (.pointer (some ⟨p, 0, none⟩))) o ∧ Dfs W0 (w.setCell ⟨bs, 0, none⟩ (.slice (some ⟨g, 0, none⟩) st.length cap)) hb G m bh br bs (b, st) := by
  obtain ⟨h1, h2, h3, D, rv, sv, vs, d1, d2, d3, d4, d5, k1, k2, k3, r1, r2, hv⟩ := h
  simp only [List.length_append, List.length_cons, List.length_nil, Nat.zero_add] at r2 h3
  obtain ⟨g, cap, cur, rfl, lg, kg, hnc, hcm, hcs, htk⟩ := r2.at (by omega)
  obtain ⟨o, v, a1, a2, a3⟩ := hv st.length i (by simp)
  obtain ⟨T, p, rfl, _⟩ := a3.iface
  have hne : g ≠ bs := fun e => by rw [e, d3] at lg; omega
  have hn : ∀ k, D k ≠ 3 → k ≠ bs := fun k e e2 => e (e2 ▸ d3)
  refine ⟨g, cap, o, T, p, k3, hnc, lt_at kg, r2.cell a2, a1, a3, ⟨h1.trans ⟨rfl, rfl, rfl, by simp [World.setCell], fun k hk => setCell_off _ (hn k (by rw [d4 k hk]; omega))⟩, h2, (show st.length + b.count false ≤ m.obs.length by omega), D, rv, _, vs.take st.length, d1, d2, d3, d4, fun k hk => d5 k (by simpa [World.setCell] using hk),
    (setCell_off _ (hn bh (by omega))).trans k1, (setCell_off _ (hn br (by omega))).trans k2, setCell_at k3 _, r1.keep (fun k _ e => setCell_off _ (hn k (by omega))) (fun _ _ e => e), ⟨⟨?_, .inr ⟨g, cap, cur, rfl, Nat.zero_le _, (setCell_off _ hne).trans kg, (show st.length ≤ cap by omega), hcm, hcs, ?_⟩⟩, fun k hk => by cases hk; exact lg⟩, fun j i' hj => ?_⟩⟩
  · have := r2.length
    show (vs.take st.length).length = st.length * 1
    rw [List.length_take, this]
    omega
  · show List.take (st.length * 1) cur.toList = List.take st.length vs
    rw [← htk, List.take_take]
    congr 1
    omega
  · have hjl := (List.getElem?_eq_some_iff.1 hj).1
    simp only at hj hjl
    obtain ⟨o', v', b1, b2, b3⟩ := hv j i' (by simp only; rw [List.getElem?_append_left hjl]; exact hj)
    exact ⟨o', v', b1, by rw [List.getElem?_take_of_lt hjl]; exact b2, b3⟩
theorem four_d (w : World) (a b c d : Obj) : ((((w.alloc a).alloc b).alloc c).alloc d).heap[w.heap.size + 3]? = some d := by
  have h := alloc_at (((w.alloc a).alloc b).alloc c) d
  simpa using h
theorem four_c (w : World) (a b c d : Obj) : ((((w.alloc a).alloc b).alloc c).alloc d).heap[w.heap.size + 2]? = some c := by
  have h := alloc_at ((w.alloc a).alloc b) c
  rw [Below.heap_alloc _ _ _ (by simp)]
  simpa using h
theorem four_b (w : World) (a b c d : Obj) : ((((w.alloc a).alloc b).alloc c).alloc d).heap[w.heap.size + 1]? = some b := by
  have h := alloc_at (w.alloc a) b
  rw [Below.heap_alloc _ _ _ (by simp), Below.heap_alloc _ _ _ (by simp)]
  simpa using h
theorem four_a (w : World) (a b c d : Obj) : ((((w.alloc a).alloc b).alloc c).alloc d).heap[w.heap.size]? = some a := by
  rw [Below.heap_alloc _ _ _ (by simp; omega), Below.heap_alloc _ _ _ (by simp; omega), Below.heap_alloc _ _ _ (by simp)]
  exact alloc_at w a
/-- A row of one's own, as an argument. -/
theorem ArgW.of_own {w : World} {B e : Nat} {v : Value} {L : List Wd} (h : w.ownsRow B e 2 v L.length (wcells L)) : ArgW w v L := by
  have hh := h
  rcases h.2 with ⟨rfl, h0⟩ | ⟨g, cap, cur, rfl, _, kg, _⟩
  · exact .inl ⟨rfl, List.eq_nil_of_length_eq_zero h0⟩
  · by_cases hz : L.length = 0
    · rw [hz]
      exact .inr (.inl ⟨_, _, rfl, List.eq_nil_of_length_eq_zero hz⟩)
    · refine .inr (.inr ⟨by omega, g, 0, cap, rfl, lt_at kg, fun j a ha => ?_⟩)
      have hr : Row w (fun _ => 0) 0 e 2 (.slice (some ⟨g, 0, none⟩) L.length cap) L.length (wcells L) := ⟨own_base hh (Nat.zero_le _), fun _ _ => rfl⟩
      exact ⟨by rw [Nat.zero_add]; exact hr.cell (wcells_fst _ _ _ ha), by rw [Nat.zero_add]; exact hr.cell (wcells_snd _ _ _ ha)⟩
set_option maxHeartbeats 8000000 in
theorem reached_any {w : World} {hb : Nat} {G : Nat → Nat} {m : Hp} (h0 : HeapAt w hb G m) (v : Value) (R : List Wd) (hR : R.length ≤ 1048576) (hA : ArgW w v R) :
    Calls Tryd.prog 42 #[hptr hb, v] w fun e w' => ∃ v b, e = .returned v ∧ Below w.heap.size w w' ∧ w'.ownsRow w.heap.size 4 1 v m.obs.length (bools b) ∧ b.length = m.obs.length ∧ ∀ j : Nat, b[j]? = some true ↔ m.Reach R j := by
  have hl := h0.ok.len
  have hl2 := h0.ok.lim2
  have hst := h0.ok.store
  obtain ⟨vo, vf, xs, k1, r1, _⟩ := h0.lies
  obtain ⟨ao, co, rfl⟩ := r1.slice
  obtain ⟨al, cl, rfl⟩ := hA.slice
  have c1 : w.cell? ⟨hb, 1, none⟩ = some (.slice ao m.obs.length co) := cell_at k1
  have z1 := lt_at k1
  have hmk := make_bools m.obs.length (by omega)
  have H0 := Lib.hid (And.intro h0 (And.intro hR (And.intro hA (And.intro (by omega : m.obs.length ≤ 65536) hst))))
  clear h0 hR hA hl hl2 k1 r1 hst
  go_enter Tryd.func42, Tryd.ntmps42
  go_wp2_with fail
  have hd0 : Dfs w ((((w.alloc (.cells #[hptr hb] 23)).alloc (.cells (madeCells #[.bool false] m.obs.length) 4)).alloc (.cells #[.slice (some ⟨w.heap.size + 1, 0, none⟩) m.obs.length m.obs.length] 56)).alloc (.cells #[.slice none 0 0] 64)) hb G m w.heap.size (w.heap.size + 1 + 1) (w.heap.size + 1 + 1 + 1) (List.replicate m.obs.length false, []) :=
    Dfs.start H0.out.2.2.2.1 ((((Below.refl _ _).alloc (Nat.le_refl _) _).alloc (by simp) _).alloc (by simp; omega) _ |>.alloc (by simp; omega) _) (four_a _ _ _ _ _) (four_b _ _ _ _ _) (four_c _ _ _ _ _) (four_d _ _ _ _ _)
  have HD := Lib.hid hd0
  clear hd0 hmk c1
  generalize ((((w.alloc (.cells #[hptr hb] 23)).alloc (.cells (madeCells #[.bool false] m.obs.length) 4)).alloc (.cells #[.slice (some ⟨w.heap.size + 1, 0, none⟩) m.obs.length m.obs.length] 56)).alloc (.cells #[.slice none 0 0] 64)) = Wa at *
  generalize w.heap.size + 1 + 1 + 1 = bs at *
  generalize w.heap.size + 1 + 1 = br at *
  generalize hbh : w.heap.size = bh at HD ⊢
  go_loopg [21] R.length (fun gk kv wr => ∃ k : Nat, gk = R.length - k ∧ k ≤ R.length ∧ kv = .int .i64 k ∧ Dfs w wr hb G m bh br bs (m.visits (List.replicate m.obs.length false, []) (R.take k)))
  case atStart => exact ⟨0, by omega, Nat.zero_le _, rfl, by simpa [Hp.visits] using HD.out⟩
  case round =>
    obtain ⟨k, hgk, hk, rfl, hd⟩ := hrel
    have HE := Lib.hid hd
    have HGK := Lib.hid hgk
    clear hd hgk
    by_cases hlt : k < R.length
    · obtain ⟨a, ha⟩ : ∃ a, R[k]? = some a := ⟨_, List.getElem?_eq_getElem hlt⟩
      rcases H0.out.2.2.1 with ⟨_, e2⟩ | ⟨_, _, _, e2⟩ | ⟨_, b, o, c, e2, hbw, hcells⟩
      · rw [e2] at hlt; simp at hlt
      · rw [e2] at hlt; simp at hlt
      cases e2
      obtain ⟨ca, cb⟩ := hcells k a ha
      have hb0 := HE.out.below
      have gl : b < wr.heap.size := Nat.lt_of_lt_of_le hbw hb0.size
      have r0 : wr.cell? ⟨b, o + k * 2, none⟩ = some (.int .i64 a.1) := (hb0.cell (p := ⟨b, o + k * 2, none⟩) hbw).trans ca
      have r1 : wr.cell? ⟨b, o + k * 2 + 1, none⟩ = some (.int .i64 a.2) := (hb0.cell (p := ⟨b, o + k * 2 + 1, none⟩) hbw).trans cb
      have hcv := fun W (hW : Below wr.heap.size wr W) => visit_any a H0.out.1 (HE.out.move hW)
      have CV := Lib.hid hcv
      have HA := Lib.hid ha
      have hR := H0.out.2.1
      clear hcv ha hb0 hcells ca cb hbw
      go_wp2_with (go_at_call 55; refine (CV.out _ (Below.alloc (Below.refl _ _) (Nat.le_refl _) _)).mono ?_; rintro e W1 ⟨rfl, hd1⟩; have H1 := Lib.hid hd1; clear hd1)
      go_roundg (R.length - (k + 1))
      case measure => have := HGK.out; omega
      case rel => exact ⟨k + 1, rfl, hlt, by go_num, by rw [Hp.visits_take _ _ _ _ _ HA.out]; exact H1.out⟩
    · have hk2 : k = R.length := by omega
      subst hk2
      have hm : Marked m R (m.visits (List.replicate m.obs.length false, []) R) := Marked.start m R
      have hd := HE.out
      rw [List.take_length] at hd
      clear HE HGK hlt hk
      generalize m.visits (List.replicate m.obs.length false, []) R = s0 at *
      have HS := Lib.hid (And.intro hm hd)
      clear hm hd HD
      go_wp2_with fail
      go_loopg [] (s0.2.length + s0.1.count false) (fun gk wq => ∃ s, gk = s.2.length + s.1.count false ∧ Marked m R s ∧ Dfs w wq hb G m bh br bs s)
      case atStart => exact ⟨s0, rfl, HS.out.1, HS.out.2⟩
      case round =>
        obtain ⟨⟨b, st⟩, hgk, hm, hd⟩ := hrel
        have hst0 : st = [] ∨ ∃ (st' : List Nat) (i : Nat), st = st' ++ [i] := by
          rcases List.eq_nil_or_concat st with h | ⟨a, b, h⟩
          · exact .inl h
          · exact .inr ⟨a, b, by rw [h]; simp⟩
        rcases hst0 with rfl | ⟨st, i, rfl⟩
        · have ho : ∃ rv as' cs', wr.heap[br]? = some (.cells #[rv] 56 (0, 0)) ∧ wr.ownsRow w.heap.size 4 1 rv m.obs.length (bools b) ∧ wr.heap[bs]? = some (.cells #[.slice as' 0 cs'] 64 (0, 0)) := by
            obtain ⟨h1, h2, h3, D, rv, sv, vs, d1, d2, d3, d4, d5, k1, k2, k3, r1, r2, hv⟩ := hd
            obtain ⟨as', cs', e⟩ := r2.slice
            subst e
            refine ⟨rv, as', cs', k2, ?_, k3⟩
            obtain ⟨⟨q1, q2⟩, q3⟩ := r1
            refine ⟨q1, q2.imp id (fun ⟨g, cap, cur, e, _, hh, hr⟩ => ⟨g, cap, cur, e, ?_, hh, hr⟩)⟩
            apply Classical.byContradiction
            intro hn
            have := d4 g (by omega)
            have := q3 g (by rw [e]; rfl)
            omega
          obtain ⟨rv, as', cs', kr, hown, ks⟩ := ho
          have r0 : wr.cell? ⟨br, 0, none⟩ = some rv := cell_at kr
          have r1 : wr.cell? ⟨bs, 0, none⟩ = some (.slice as' 0 cs') := cell_at ks
          have HZ := Lib.hid (And.intro hm (And.intro hd hown))
          clear hm hd hown kr ks hgk
          go_wp2
          go_ret
          exact ⟨rv, b, rfl, HZ.out.2.1.below, HZ.out.2.2, HZ.out.1.len, HZ.out.1.whole⟩
        · obtain ⟨g, cap, o, T, p, k3, hnc, zg, cg, ho, hov, hd2⟩ := hd.pop
          have r0 : wr.cell? ⟨bs, 0, none⟩ = some (.slice (some ⟨g, 0, none⟩) (st.length + 1) cap) := cell_at k3
          have f0 : wr.frozen? ⟨bs, 0, none⟩ = false := frozen_at k3
          have hm2 := Marked.round hm ho
          have hsum := (visits_any m o.words (b, st) hm.len).sum
          have hsz := Nat.le_trans (size_total _ _ _ ho) H0.out.2.2.2.2
          have hst : st.length + 1 ≤ 65536 := by
            have := hd.room
            have := H0.out.2.2.2.1
            simp at *
            omega
          have HZ := Lib.hid (And.intro hm2 (And.intro hsum (And.intro hgk (And.intro hov (And.intro hd2 hsz)))))
          clear hm hd hm2 hsum hgk hov hd2 hsz k3
          go_wp2_with (go_at_call 56; refine (each_any _ _ o H0.out.1 HZ.out.2.2.2.2.1 HZ.out.2.2.2.1 HZ.out.2.2.2.2.2).mono ?_; rintro e W1 ⟨rfl, hd1⟩; have H1 := Lib.hid hd1; clear hd1)
          go_roundg ((m.visits (b, st) o.words).2.length + (m.visits (b, st) o.words).1.count false)
          case measure => have h1 := HZ.out.2.1; have h2 := HZ.out.2.2.1; simp at h1 h2; omega
          case rel => exact ⟨_, rfl, HZ.out.1, H1.out⟩
end Go.Proofs.YtleppjdmcjocmaaDoor
