/- Unbind: the walk. -/
import Derived.Test.YtgkblfegjmeolaaVaUnb1
namespace Go.Proofs.Ytgkblfegjmeolaa
open Go.RowKit Go.Lib Go.Shelf
attribute [local go_sem] Oper.semAt_some
theorem operIn_round {n l : Nat} {P : Program} {o : Oper} {a : Act} {w : World} {K : Act → World → Prop} {Q : Exit → Act → World → Prop} (hnd : ∀ c, o.op ≠ .defer c) (h : o.wpIn Fence.wide n P a w K Q) : o.wpIn (Fence.wide.inRound l) n P a w K Q := by
  unfold Oper.wpIn at *
  refine ⟨h.1, ?_⟩
  have h := h.2
  rw [show (Fence.wide.inRound l).round = some l from rfl, Oper.semAt_some l _ _ hnd]
  rw [show Fence.wide.round = none from rfl, Oper.semAt_none] at h
  generalize (execOp a.eval o).run P w = r at *
  cases r with
  | ok x w' => cases x <;> exact h
  | halt x w' => cases x <;> exact h
theorem wpAnyIn_round {n l : Nat} {P : Program} {md : Region.Mode} {ops : Array Oper} {Q : Exit → Act → World → Prop} (hnd : ∀ (j : Nat) (o : Oper), ops[j]? = some o → ∀ c, o.op ≠ .defer c) :
    ∀ (fuel : Nat) (listed : Array Bool) (a : Act) (w : World), wpAnyIn Fence.wide n P md ops Q fuel listed a w → wpAnyIn (Fence.wide.inRound l) n P md ops Q fuel listed a w := by
  intro fuel
  induction fuel with
  | zero => intro listed a w h; exact h
  | succ fuel ih =>
    intro listed a w h
    refine ⟨h.1, fun i hi => ?_⟩
    have h2 := wpOpIn_mono (fun a' w' h3 => ih _ a' w' h3) (h.2 i hi)
    unfold wpOpIn at *
    split
    · rename_i e; simpa [e] using h2
    · rename_i o e
      simp only [e] at h2
      split
      · rename_i hw; simp only [hw, if_true] at h2; exact operIn_round (hnd i o e) h2
      · rename_i hw; simp only [hw] at h2; exact h2
theorem store_fun (W : World) (b : Bd) (x0 x1 x2 : Value) : (store ⟨W.heap.size, 3, none⟩ (bfun b)).run Try.prog (W.alloc (.cells #[x0, x1, x2, .nilFunc] 68)) = .ok () (W.alloc (.cells #[x0, x1, x2, bfun b] 68)) := by
  rw [run_store Try.prog _ _ _ _ rfl]
  simp [go_sem]
theorem box2_at (w : World) (a o : Obj) : ((w.alloc a).alloc o).heap[w.heap.size + 1]? = some o := by
  have h := alloc_at (w.alloc a) o
  rwa [show (w.alloc a).heap.size = w.heap.size + 1 by simp] at h
theorem box2_cell (w : World) (a : Obj) (v : Value) (t : TypeId) : ((w.alloc a).alloc (.cells #[v] t)).cell? ⟨w.heap.size + 1, 0, none⟩ = some v := (cell_at (box2_at w a (.cells #[v] t))).trans rfl
theorem bsl_nil {G : Nat → Nat} {B : Nat} {W : World} {a : Option Addr} {c : Nat} {zs : List Bd} (h : zs = []) : BSl G B W (.slice a 0 c) zs := .inl ⟨a, c, rfl, h⟩
theorem bsl_some {G : Nat → Nat} {w W : World} {g n c d : Nat} {bs : List Bd} {c' : Nat} (h : Row w G 4 68 4 (.slice (some ⟨g, 0, none⟩) n c) n (bcells bs)) (hW : Below w.heap.size w W) (hn : bs.length = n) (hd : d < n) : BSl G W.heap.size W (.slice (some ⟨g, d * 4, none⟩) (n - d) c') (bs.drop d) := by
  obtain ⟨g', cap, cur, e, hG, hg, _⟩ := h.at (by omega)
  cases e
  have hl : n - d = (bs.drop d).length := by rw [List.length_drop, hn]
  rw [hl]
  have hs := hW.size
  have hlt := lt_at hg
  refine .inr ⟨g, d * 4, c', rfl, by omega, hG, fun k b hb => ?_⟩
  obtain ⟨h1, h2, h3, h4⟩ := h.bat.drop d k b hb
  exact ⟨(hW.cell (p := ⟨g, _, none⟩) hlt).trans h1, (hW.cell (p := ⟨g, _, none⟩) hlt).trans h2, (hW.cell (p := ⟨g, _, none⟩) hlt).trans h3, (hW.cell (p := ⟨g, _, none⟩) hlt).trans h4⟩
theorem bsl_some2 {G : Nat → Nat} {w W : World} {g n c d : Nat} {bs zs : List Bd} {c' : Nat} (h : Row w G 4 68 4 (.slice (some ⟨g, 0, none⟩) n c) n (bcells bs)) (hW : Below w.heap.size w W) (hn : bs.length = n) (hd : d < n) (hz : bs.drop d = zs) : BSl G W.heap.size W (.slice (some ⟨g, d * 4, none⟩) (n - d) c') zs := by
  subst hz
  exact bsl_some h hW hn hd
/-- What the loop and what follows need. -/
structure URdy (w W0 : World) (vb : Nat) (G : Nat → Nat) (m : Vs) (cm : Nat) (zs : List Bd) : Prop where
  below : Below w.heap.size w W0
  vars : VarsAt W0 vb G m
  box : W0.heap[w.heap.size]? = some (.cells #[hptr vb] 23)
  map : W0.cell? ⟨vb, 0, none⟩ = some (.map (some cm))
  ok : ∀ b ∈ zs, b.k ≤ 65536 ∧ b.n < 16384 ∧ W0.heap[b.p]? = some (iobj b.k) ∧ W0.heap[b.q]? = some (iobj b.n) ∧ G b.p = 5 ∧ G b.q = 5
theorem URdy.mk2 {w : World} {vb : Nat} {G : Nat → Nat} {m : Vs} {cm mm : Nat} {bv : Value} {bs : List Bd} (h : VarsAt w vb G m) (e1 : w.heap[vb]? = some (.cells #[.map (some cm), .int .i64 m.scope, .map (some mm), bv] 58 (0, 0))) (hok : ∀ b ∈ bs, b.Ok w G) (d : Nat) (o : Obj) :
    URdy w ((w.alloc (.cells #[hptr vb] 23)).alloc o) vb G m cm (bs.drop d) := by
  have hb : Below w.heap.size w ((w.alloc (.cells #[hptr vb] 23)).alloc o) := ((Below.refl _ _).alloc (Nat.le_refl _) _).alloc (by simp) _
  exact ⟨hb, h.below hb, (((Below.refl _ _).alloc (Nat.le_refl _) o).block _ (by simp)).trans (alloc_at w _), (cell_at ((hb.block _ (lt_at e1)).trans e1)).trans rfl, fun b hbb => by
    obtain ⟨a1, a2, a3, a4, a5, a6⟩ := hok b (List.mem_of_mem_drop hbb)
    exact ⟨a1, a2, (hb.block _ (lt_at a3)).trans a3, (hb.block _ (lt_at a4)).trans a4, a5, a6⟩⟩
/-- In a round: what the body reads, and what its call does. -/
theorem URdy.round {w W0 W : World} {vb : Nat} {G : Nat → Nat} {m m' : Vs} {cm : Nat} {zs : List Bd} (h : URdy w W0 vb G m cm zs) (hG : G w.heap.size = 0) (hI : UI W0 W vb G W0.heap.size m') {b : Bd} (hb : b ∈ zs) :
    W.cell? ⟨w.heap.size, 0, none⟩ = some (hptr vb) ∧ W.cell? ⟨vb, 0, none⟩ = some (.map (some cm)) ∧ ∀ X, Below W.heap.size W X → Calls Try.prog 62 #[.map (some cm), cag b.c, hptr b.p, hptr b.q] X fun e w' => e = .returned (.tuple #[]) ∧ VarsAt w' vb G (m'.rest b.out) ∧ CWent W w' G G := by
  have hbx := (hI.kp w.heap.size (lt_at h.box) (by omega) (by omega)).trans h.box
  have hmp : W.cell? ⟨vb, 0, none⟩ = some (.map (some cm)) := (World.cell?_of_block (a := ⟨vb, 0, none⟩) (hI.kp vb h.vars.lt (by rw [h.vars.lab]; decide) (by rw [h.vars.lab]; decide))).trans h.map
  refine ⟨(cell_at hbx).trans rfl, hmp, fun X hd => ?_⟩
  obtain ⟨a1, a2, a3, a4, a5, a6⟩ := h.ok b hb
  have k3 := (hI.kp _ (lt_at a3) (by omega) (by omega)).trans a3
  have k4 := (hI.kp _ (lt_at a4) (by omega) (by omega)).trans a4
  have hok : b.Ok X G := ⟨a1, a2, (hd.block _ (lt_at k3)).trans k3, (hd.block _ (lt_at k4)).trans k4, a5, a6⟩
  refine (restore_any (hI.vars.below hd) (cm := cm) ((hd.cell (p := ⟨vb, 0, none⟩) hI.vars.lt).trans hmp) hok).mono ?_
  rintro e w' ⟨he, h1, h2⟩
  exact ⟨he, h1, CWent.after hd h2 hI.vars.new⟩
theorem wp_calm {P : Program} {c : Code} {K : Act → World → Prop} {Q : Exit → Act → World → Prop} {a : Act} {w : World} (h : c.wp P (Exit.then K (fun _ _ _ => False)) a w) : c.wp P (Exit.then K Q) a w :=
  Code.wp_mono (fun e a w h => by cases e <;> first | exact h | exact h.elim) h
/-- What stands when all is undone. -/
structure UEnd (w w2 : World) (vb : Nat) (G : Nat → Nat) (m : Vs) (d D : Nat) : Prop where
  vars : VarsAt w2 vb G (m.unbind d)
  keeps : Keeps G w w2
  dfr : w2.heap[D]? = some (.deferred (some []))
  box : w2.cell? ⟨w.heap.size, 0, none⟩ = some (hptr vb)
theorem UEnd.put {w w2 : World} {vb : Nat} {G : Nat → Nat} {m : Vs} {d D : Nat} (h : UEnd w w2 vb G m d D) (hD : w.heap.size ≤ D) (hG : G D = 0) (o : Obj) : VWent w (w2.putObj D o) vb G (m.unbind d) :=
  ⟨⟨h.keeps.os, h.keeps.tape, h.keeps.output, by simpa [World.putObj] using h.keeps.size, fun k hk hz => (World.putObj_heap_other (by omega)).trans (h.keeps.block k hk hz)⟩,
    G, h.vars.keep (fun k hk e => World.putObj_heap_other (fun e2 => e (by rw [e2]; exact hG))), fun _ _ => Iff.rfl⟩
theorem URdy.fin {w W0 W : World} {vb : Nat} {G : Nat → Nat} {m : Vs} {cm n d D : Nat} {zs : List Bd} (h : URdy w W0 vb G m cm zs) (hG : G w.heap.size = 0) (hI : UI W0 W vb G W0.heap.size (m.restAll (zs.map Bd.out).reverse)) (hz : zs.map Bd.out = m.binds.drop d)
    (hn : m.binds.length = n) (hd : d ≤ n) (hl : n ≤ 2000) (hD : W0.heap.size ≤ D) (hk : W.heap[D]? = some (.deferred (some []))) :
    ∃ a c, W.cell? ⟨w.heap.size, 0, none⟩ = some (hptr vb) ∧ W.cell? ⟨vb, 3, none⟩ = some (.slice a n c) ∧ G D = 0 ∧ w.heap.size ≤ D ∧
      ∀ (X : World) (dI nI : Int), (d : Int) = dI → (n : Int) = nI → Below W.heap.size W X → Calls Try.prog 50 #[.slice a n c, .int .i64 dI, .int .i64 nI] X fun e w1 => ∃ a3 c3, e = .returned (.slice a3 d c3) ∧
        w1.cell? ⟨w.heap.size, 0, none⟩ = some (hptr vb) ∧ w1.cell? ⟨vb, 3, none⟩ = some (.slice a n c) ∧ w1.frozen? ⟨vb, 3, none⟩ = false ∧ UEnd w (w1.setCell ⟨vb, 3, none⟩ (.slice a3 d c3)) vb G m d D := by
  have hsm := (m.restAll_same (zs.map Bd.out).reverse).1
  have hbx := (hI.kp w.heap.size (lt_at h.box) (by omega) (by omega)).trans h.box
  have hW := h.below.size
  have hGD : G D = 0 := h.vars.new D hD
  obtain ⟨a, c, bs, c3, hb, hr, _⟩ := hI.vars.cutter
  rw [hsm, hn] at hb
  rw [hb] at c3
  refine ⟨a, c, (cell_at hbx).trans rfl, c3, hGD, by omega, fun X dI nI eD eN hX => ?_⟩
  subst eD eN
  obtain ⟨a2, c2, bs2, c32, hb2, hr2, hC⟩ := (hI.vars.below hX).cutter
  rw [hsm, hn] at hb2
  have e3 := (hX.cell (p := ⟨vb, 3, none⟩) hI.vars.lt).trans c3
  rw [c32, hb2] at e3
  cases e3
  rw [hb2] at hr2
  refine (delete_any hr2 hb2 hl d hd).mono ?_
  rintro e w1 ⟨v', he, hcut⟩
  have hcut2 := hcut
  rw [← hb2] at hcut2
  obtain ⟨g1, g2, g3, g4⟩ := hC d w1 v' (by omega) hcut2
  rw [hb2] at g1
  have lD := lt_at hk
  have lB := lt_at hbx
  have hXD : X.heap[D]? = some (.deferred (some [])) := (hX.block D lD).trans hk
  have hXB := (hX.block _ lB).trans hbx
  have lv : G vb = 1 := h.vars.lab
  have h1D := (g3 D (lt_at hXD) (by omega)).trans hXD
  have h1B := (g3 _ (lt_at hXB) (by omega)).trans hXB
  have hnD : D ≠ vb := fun e => by rw [e] at hGD; omega
  have hnB : w.heap.size ≠ vb := fun e => by rw [e] at hG; omega
  have hu : m.unbind d = { m.restAll (zs.map Bd.out).reverse with binds := (m.restAll (zs.map Bd.out).reverse).binds.take d } := by
    rw [hsm, hz]; rfl
  obtain ⟨a3, c3, rfl⟩ := hcut.row.slice
  refine ⟨a3, c3, he, (cell_at h1B).trans rfl, g1, g2, hu ▸ g4, ?_, (setCell_off _ hnD).trans h1D, (cell_at ((setCell_off _ hnB).trans h1B)).trans rfl⟩
  have k1 : Keeps G w W0 := Keeps.of_below h.below
  have k2 : Keeps G W0 W := ⟨hI.os, hI.tape, hI.output, hI.size, fun k hk e => hI.kp k hk (by omega) (by omega)⟩
  have k3 : Keeps G W X := Keeps.of_below hX
  have k4 := ((k1.trans k2 (fun _ _ e => e)).trans k3 (fun _ _ e => e)).grown hcut.grown (fun k e _ => by rw [hr2.lab k e]; decide)
  exact k4.setCell (fun _ => by rw [lv]; decide) _
set_option maxHeartbeats 8000000 in
set_option maxRecDepth 100000 in
theorem unbind_ok {w : World} {vb : Nat} {G : Nat → Nat} {m : Vs} (h : VarsAt w vb G m) (d : Nat) (hd : d ≤ m.binds.length) (hl : m.binds.length ≤ 2000) :
    Calls Try.prog 19 #[hptr vb, .int .i64 d] w fun e w' => e = .returned (.int .i64 0) ∧ VWent w w' vb G (m.unbind d) := by
  obtain ⟨cm, mm, a, c, bs, e1, eb, hrow, hok⟩ := h.unb
  have hbl : bs.length = m.binds.length := by rw [← eb]; simp
  obtain ⟨n, hn⟩ : ∃ n, bs.length = n := ⟨_, rfl⟩
  rw [hn] at e1 hrow
  have hdn : d ≤ n := by omega
  have hn2 : n ≤ 2000 := by omega
  have cnc : n ≤ c := by
    rcases hrow.own.2 with ⟨e, h0⟩ | ⟨g, cap, cur, e, _, _, h0, _⟩
    · omega
    · cases e; exact h0
  have hb1 : Below w.heap.size w (w.alloc (.cells #[hptr vb] 23)) := (Below.refl _ _).alloc (Nat.le_refl _) _
  have hv1 := h.below hb1
  have cV := hv1.valid
  have c3 : (w.alloc (.cells #[hptr vb] 23)).cell? ⟨vb, 3, none⟩ = some (.slice a n c) := cell_at ((hb1.block _ (lt_at e1)).trans e1)
  have a0 := alloc_at w (.cells #[hptr vb] 23)
  have b0 : (w.alloc (.cells #[hptr vb] 23)).cell? ⟨w.heap.size, 0, none⟩ = some (hptr vb) := cell_at a0
  have hd0 : decide ((d : Int) < 0) = false := by simp
  have hd1 : ¬ (n : Int) < (d : Int) := by omega
  have hd2 : (d : Int) ≤ (n : Int) := by omega
  have hd3 : (d : Int) ≤ (c : Int) := by omega
  have hca : (a = none ∧ n = 0 ∧ c = 0 ∧ d = 0) ∨ ∃ g, a = some ⟨g, 0, none⟩ ∧ ((d = n ∧ c = n) ∨ (d = n ∧ d ≠ c ∧ ¬ c = d) ∨ (d < n ∧ d ≠ c ∧ ¬ c = d)) := by
    rcases hrow.own.2 with ⟨e, h0⟩ | ⟨g, cap, cur, e, _, _, h0, _⟩
    · cases e; exact .inl ⟨rfl, by omega, rfl, by omega⟩
    · cases e
      refine .inr ⟨g, rfl, ?_⟩
      rcases Nat.lt_or_ge d n with h1 | h1
      · exact .inr (.inr ⟨h1, by omega, by omega⟩)
      · by_cases h2 : c = n
        · exact .inl ⟨by omega, h2⟩
        · exact .inr (.inl ⟨by omega, by omega, by omega⟩)
  have hGv := h.new w.heap.size (Nat.le_refl _)
  have hGs := h.new (w.heap.size + 1) (by omega)
  obtain ⟨zs, hzs⟩ : ∃ zs, bs.drop d = zs := ⟨_, rfl⟩
  have hzl : zs.length = n - d := by rw [← hzs, List.length_drop, hn]
  have HA := Lib.hid (fun o => hzs ▸ URdy.mk2 (cm := cm) (mm := mm) h e1 hok d o)
  have HZ := Lib.hid (And.intro hzs hzl)
  clear hzs hzl
  have HG := Lib.hid (And.intro hGv hGs)
  clear hGv hGs
  have HM := Lib.hid (And.intro h (And.intro e1 (And.intro eb (And.intro hrow (And.intro hok (And.intro hn (And.intro hb1 a0)))))))
  have HV := Lib.hid cV
  clear h e1 eb hrow hok hbl hn hb1 hv1 cV a0 hl hd
  refine (callsIn_wide (n := 6)).1 ?_
  refine callsIn_of_wp_marks Try.func19 rfl trivial ?_ rfl
  simp only [Try.ntmps19, List.size_toArray, List.length_cons, List.length_nil, Nat.reduceAdd, Nat.reduceSub, Array.replicate_succ, Array.replicate_zero, List.push_toArray, List.append_toArray, List.nil_append, List.cons_append]
  refine wpIn_wide.2 ?_
  go_wp2_with fail
  refine HV.out.mono ?_
  rintro e w1 ⟨rfl, rfl⟩
  rcases hca with ⟨rfl, rfl, rfl, rfl⟩ | ⟨g, rfl, ⟨rfl, rfl⟩ | ⟨rfl, hne1, hne2⟩ | ⟨hlt, hne1, hne2⟩⟩
  all_goals
    go_wp2_with fail
    refine (back_any _ _ _ _).mono ?_
    rintro e w1 ⟨rfl, rfl⟩
    go_wp2_with fail
    refine unb_rf (vb := vb) (G := G) (m := m) (zs := zs) (w.heap.size + 1) (by first | rfl | simp [Act.eval]) (by simp) HG.out.2 (box2_cell w _ _ _) ?bsl (by have := HZ.out.2; omega) (HA.out _).vars ?assign ?body ?done
    case bsl => first | exact bsl_nil (List.eq_nil_of_length_eq_zero (by have := HZ.out.2; omega)) | exact bsl_some2 HM.out.2.2.2.1 (HA.out _).below HM.out.2.2.2.2.2.1 hlt HZ.out.1
    case assign =>
      intro l x W K hK
      have hst := store_fun W x.2.1
      simp only [tmE]
      gi_wp2
      refine Eq.mp (congrArg (fun t => K t (W.alloc (bobj x.2.1))) ?_) hK
      kernel_rfl
    case body =>
      intro l x Bx m' W hI hx
      obtain ⟨y0, y1, cR⟩ := (HA.out _).round HG.out.1 hI x.2.2
      have q0 : W.cell? ⟨Bx, 0, none⟩ = some (.int .i64 x.2.1.c.1.1) := cell_at hx
      have q1 : W.cell? ⟨Bx, 1, none⟩ = some (.int .i64 x.2.1.c.1.2) := cell_at hx
      have q2 : W.cell? ⟨Bx, 2, none⟩ = some (.bool x.2.1.c.2) := cell_at hx
      have q3 : W.cell? ⟨Bx, 3, none⟩ = some (bfun x.2.1) := cell_at hx
      have CR := Lib.hid cR
      clear hI hx cR
      have hmx : Try.prog.follows .mixedOrders = true := by kernel_rfl
      have HC9 := Lib.hid ((callsIn_wide (n := 3)).2 (CR.out W.drew (Below.refl _ _).drew))
      have hwf : Fence.wide.fn 62 := trivial
      simp only [actE, tmE, List.setIfInBounds_toArray, List.set_cons_succ, List.set_cons_zero]
      gi_wp2
      refine wpIn_region_any hmx (wpAnyIn_round (by intro j o hj; rcases j with _ | _ | _ | _ | _ | _ | _ | _ | _ | j <;> simp at hj <;> subst hj <;> simp) _ _ _ _ ?_)
      change wpAnyIn _ _ _ _ _ _ _ _ _ (World.drew _)
      (refine wpAnyIn_take (i := 0) (v := ?_) rfl rfl (by kernel_rfl) (by decide +kernel) (by decide +kernel) (fun _ _ _ h => h) ⟨Or.inl ⟨by rfl, ?_⟩, fun _ => rfl⟩ ?_; rotate_left; (intro w9; go_simp; try with_reducible rfl))
      (refine wpAnyIn_take (i := 6) (v := ?_) rfl rfl (by kernel_rfl) (by decide +kernel) (by decide +kernel) (fun _ _ _ h => h) ⟨Or.inl ⟨by rfl, ?_⟩, fun _ => rfl⟩ ?_; rotate_left; (intro w9; go_simp; try with_reducible rfl))
      repeat' first
        | (refine wpAnyIn_take (i := 3) (v := ?_) rfl rfl (by kernel_rfl) (by decide +kernel) (by decide +kernel) (fun _ _ _ h => h) ⟨Or.inl ⟨by rfl, ?_⟩, fun _ => rfl⟩ ?_; rotate_left; (intro w9; go_simp; try with_reducible rfl))
        | (refine wpAnyIn_take (i := 4) (v := ?_) rfl rfl (by kernel_rfl) (by decide +kernel) (by decide +kernel) (fun _ _ _ h => h) ⟨Or.inl ⟨by rfl, ?_⟩, fun _ => rfl⟩ ?_; rotate_left; (intro w9; go_simp; try with_reducible rfl))
        | ((refine wpAnyIn_ready (rs := [1,2,7]) (by decide +kernel) (by simp) (AllReadyIn.cons rfl (fun K hK => ?_) (AllReadyIn.cons rfl (fun K hK => ?_) (AllReadyIn.cons rfl (fun K hK => ?_) AllReadyIn.nil)))) <;> (go_simp; refine hK _ _ ?_; clear hK K))
        | ((refine wpAnyIn_ready (rs := [2,7]) (by decide +kernel) (by simp) (AllReadyIn.cons rfl (fun K hK => ?_) (AllReadyIn.cons rfl (fun K hK => ?_) AllReadyIn.nil))) <;> (go_simp; refine hK _ _ ?_; clear hK K))
        | ((refine wpAnyIn_ready (rs := [1,2]) (by decide +kernel) (by simp) (AllReadyIn.cons rfl (fun K hK => ?_) (AllReadyIn.cons rfl (fun K hK => ?_) AllReadyIn.nil))) <;> (go_simp; refine hK _ _ ?_; clear hK K))
        | ((refine wpAnyIn_ready (rs := [2]) (by decide +kernel) (by simp) (AllReadyIn.cons rfl (fun K hK => ?_) AllReadyIn.nil)) <;> (go_simp; refine hK _ _ ?_; clear hK K))
        | ((refine wpAnyIn_ready (rs := [1,5,7]) (by decide +kernel) (by simp) (AllReadyIn.cons rfl (fun K hK => ?_) (AllReadyIn.cons rfl (fun K hK => ?_) (AllReadyIn.cons rfl (fun K hK => ?_) AllReadyIn.nil)))) <;> (go_simp; refine hK _ _ ?_; clear hK K))
        | ((refine wpAnyIn_ready (rs := [5,7]) (by decide +kernel) (by simp) (AllReadyIn.cons rfl (fun K hK => ?_) (AllReadyIn.cons rfl (fun K hK => ?_) AllReadyIn.nil))) <;> (go_simp; refine hK _ _ ?_; clear hK K))
        | ((refine wpAnyIn_ready (rs := [1,5]) (by decide +kernel) (by simp) (AllReadyIn.cons rfl (fun K hK => ?_) (AllReadyIn.cons rfl (fun K hK => ?_) AllReadyIn.nil))) <;> (go_simp; refine hK _ _ ?_; clear hK K))
        | ((refine wpAnyIn_ready (rs := [5]) (by decide +kernel) (by simp) (AllReadyIn.cons rfl (fun K hK => ?_) AllReadyIn.nil)) <;> (go_simp; refine hK _ _ ?_; clear hK K))
        | ((refine wpAnyIn_ready (rs := [1,7]) (by decide +kernel) (by simp) (AllReadyIn.cons rfl (fun K hK => ?_) (AllReadyIn.cons rfl (fun K hK => ?_) AllReadyIn.nil))) <;> (go_simp; refine hK _ _ ?_; clear hK K))
        | ((refine wpAnyIn_ready (rs := [7]) (by decide +kernel) (by simp) (AllReadyIn.cons rfl (fun K hK => ?_) AllReadyIn.nil)) <;> (go_simp; refine hK _ _ ?_; clear hK K))
        | ((refine wpAnyIn_ready (rs := [1]) (by decide +kernel) (by simp) (AllReadyIn.cons rfl (fun K hK => ?_) AllReadyIn.nil)) <;> (go_simp; refine hK _ _ ?_; clear hK K))
        | fail
      all_goals refine wpAnyIn_ready (rs := [8]) (by decide +kernel) (by simp) (AllReadyIn.cons rfl (fun K hK => ?_) AllReadyIn.nil)
      all_goals go_simp
      all_goals refine HC9.out.mono ?_
      all_goals rintro e w' ⟨rfl, h1, h2⟩
      all_goals refine hK _ _ ?_
      all_goals refine wpAnyIn_done (by kernel_rfl) ?_ _
      all_goals exact ⟨rfl, h1, h2⟩
    case done =>
      intro D W hD hI hk
      obtain ⟨a9, c9, y0, y1, hGD, hwD, cD⟩ := URdy.fin (HA.out _) HG.out.1 hI (by rw [← HZ.out.1, List.map_drop, HM.out.2.2.1]) (by rw [← HM.out.2.2.1, List.length_map]; exact HM.out.2.2.2.2.2.1) hdn hn2 hD hk
      have HC := Lib.hid (fun dI nI e1 e2 => cD W.drew dI nI e1 e2 (Below.refl _ _).drew)
      have HB := Lib.hid (show W.drew.cell? ⟨w.heap.size, 0, none⟩ = some (hptr vb) from y0)
      have HQ := Lib.hid (And.intro hGD hwD)
      clear cD hI hk hGD hwD hD
      go_wp2_with fail
      refine wp_calm ?_
      refine wp_region_held_drew (S := fun X => X.cell? ⟨w.heap.size, 0, none⟩ = some (hptr vb)) (by kernel_rfl) HB.out (fun hS => ?_)
      (refine wpAnyH_take (i := 0) (v := ?_) rfl (by kernel_rfl) (by decide +kernel) (by decide +kernel) (fun _ _ _ h => h) (Or.inl ⟨by rfl, ?_⟩) (by assumption) ?_; rotate_left; (intro w9 hSw; (try dsimp only at hSw); go_simp; try with_reducible rfl))
      (refine wpAnyH_take (i := 1) (v := ?_) rfl (by kernel_rfl) (by decide +kernel) (by decide +kernel) (fun _ _ _ h => h) (Or.inl ⟨by rfl, ?_⟩) (by assumption) ?_; rotate_left; (intro w9 hSw; (try dsimp only at hSw); go_simp; try with_reducible rfl))
      (refine wpAnyH_take (i := 2) (v := ?_) rfl (by kernel_rfl) (by decide +kernel) (by decide +kernel) (fun _ _ _ h => h) (Or.inl ⟨by rfl, ?_⟩) (by assumption) ?_; rotate_left; (intro w9 hSw; (try dsimp only at hSw); go_simp; try with_reducible rfl))
      (refine wpAnyH_take (i := 3) (v := ?_) rfl (by kernel_rfl) (by decide +kernel) (by decide +kernel) (fun _ _ _ h => h) (Or.inl ⟨by rfl, ?_⟩) (by assumption) ?_; rotate_left; (intro w9 hSw; (try dsimp only at hSw); go_simp; try with_reducible rfl))
      (refine wpAnyH_take (i := 5) (v := ?_) rfl (by kernel_rfl) (by decide +kernel) (by decide +kernel) (fun _ _ _ h => h) (Or.inl ⟨by rfl, ?_⟩) (by assumption) ?_; rotate_left; (intro w9 hSw; (try dsimp only at hSw); go_simp; try with_reducible rfl))
      (refine wpAnyH_take (i := 6) (v := ?_) rfl (by kernel_rfl) (by decide +kernel) (by decide +kernel) (fun _ _ _ h => h) (Or.inl ⟨by rfl, ?_⟩) (by assumption) ?_; rotate_left; (intro w9 hSw; (try dsimp only at hSw); go_simp; try with_reducible rfl))
      (refine wpAnyH_take (i := 7) (v := ?_) rfl (by kernel_rfl) (by decide +kernel) (by decide +kernel) (fun _ _ _ h => h) (Or.inl ⟨by rfl, ?_⟩) (by assumption) ?_; rotate_left; (intro w9 hSw; (try dsimp only at hSw); go_simp; try with_reducible rfl))
      (refine wpAnyH_take (i := 8) (v := ?_) rfl (by kernel_rfl) (by decide +kernel) (by decide +kernel) (fun _ _ _ h => h) (Or.inl ⟨by rfl, ?_⟩) (by assumption) ?_; rotate_left; (intro w9 hSw; (try dsimp only at hSw); go_simp; try with_reducible rfl))
      ((refine wpAnyH_ready (rs := [4,9]) (by decide +kernel) (by simp) (AllReadyH.cons rfl (fun K hK => ?_) (AllReadyH.cons rfl (fun K hK => ?_) AllReadyH.nil))) <;> (go_simp; refine hK.out _ _ (by assumption) (fun hS => ?_); clear hK K))
      all_goals first | ((refine wpAnyH_ready (rs := [9]) (by decide +kernel) (by simp) (AllReadyH.cons rfl (fun K hK => ?_) AllReadyH.nil)) <;> (go_simp; refine hK.out _ _ (by assumption) (fun hS => ?_); clear hK K)) | skip
      all_goals (refine wpAnyH_take (i := 10) (v := ?_) rfl (by kernel_rfl) (by decide +kernel) (by decide +kernel) (fun _ _ _ h => h) (Or.inl ⟨by rfl, ?_⟩) (by assumption) ?_; rotate_left; (intro w9 hSw; (try dsimp only at hSw); go_simp; try with_reducible rfl))
      all_goals first | ((refine wpAnyH_ready (rs := [4]) (by decide +kernel) (by simp) (AllReadyH.cons rfl (fun K hK => ?_) AllReadyH.nil)) <;> (go_simp; refine hK.out _ _ (by assumption) (fun hS => ?_); clear hK K)) | skip
      all_goals ((refine wpAnyH_ready (rs := [11]) (by decide +kernel) (by simp) (AllReadyH.cons rfl (fun K hK => ?_) AllReadyH.nil)) <;> (go_simp; (with_reducible refine (HC.out _ _ (by simp) (by simp)).mono ?_); rintro e wq ⟨a3, c3, rfl, f0, f1, f2, f3⟩; (have HE := Lib.hid (And.intro f0 f3)); clear f3; refine hK.out _ _ (by exact HE.out.1) (fun hS => ?_); clear hK K))
      all_goals (refine wpAnyH_take (i := 12) (v := ?_) rfl (by kernel_rfl) (by decide +kernel) (by decide +kernel) (fun _ _ _ h => h) (Or.inl ⟨by rfl, ?_⟩) (by assumption) ?_; rotate_left; (intro w9 hSw; (try dsimp only at hSw); go_simp; try with_reducible rfl))
      all_goals (refine wpAnyH_take (i := 13) (v := ?_) rfl (by kernel_rfl) (by decide +kernel) (by decide +kernel) (fun _ _ _ h => h) (Or.inl ⟨by rfl, ?_⟩) (by assumption) ?_; rotate_left; (intro w9 hSw; (try dsimp only at hSw); go_simp; try with_reducible rfl))
      all_goals ((refine wpAnyH_ready (rs := [14]) (by decide +kernel) (by simp) (AllReadyH.cons rfl (fun K hK => ?_) AllReadyH.nil)) <;> (go_simp; refine hK.out _ _ (by exact HE.out.2.box) (fun hS => ?_); clear hK K))
      all_goals refine wpAnyH_done (by kernel_rfl) ?_ _
      all_goals go_wp2
      all_goals exact ⟨by simp, .inl ⟨_, _, rfl, run_takeDeferred HE.out.2.dfr, _, results_tmp rfl _ _ _, rfl, HE.out.2.put HQ.out.2 HQ.out.1 _⟩⟩
end Go.Proofs.Ytgkblfegjmeolaa
