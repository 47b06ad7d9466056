import Derived.Test.YtbbopdkbokbafaaGreatDoorHpPlace
import Derived.Test.YtbbopdkbokbafaaGreatDoorHpKit
import Derived.Test.YtbbopdkbokbafaaGreatDoorHpMake2
import Derived.Maps.OwnSet
import Derived.Maps.OwnOps
import Derived.Deep.RegionLaw
import Derived.Laws.AppendOwnNone
/- What a symbol table holds, as plain data, and how it lies in memory. -/
namespace Go.Proofs.YtbbopdkbokbafaaGreatDoor
open Go.RowKit Go.Lib
/-- A symbol: its function, whether it has one, its properties, its name, whether it is interned. -/
structure Sy where
  f : Wd
  has : Bool
  ps : List (Int × Wd)
  name : ByteArray
  intd : Bool
def pcells (l : List (Int × Wd)) : List Value := l.flatMap fun p => [.int .i64 p.1, .int .i64 p.2.1, .int .i64 p.2.2]
def scells (s : Sy) (pv : Value) : List Value := [.int .i64 s.f.1, .int .i64 s.f.2, .bool s.has, pv, .string s.name, .bool s.intd]
def tcells (l : List (Sy × Value)) : List Value := l.flatMap fun p => scells p.1 p.2
theorem tcells_append (l r : List (Sy × Value)) : tcells (l ++ r) = tcells l ++ tcells r := by simp [tcells]
theorem tcells_cons (p : Sy × Value) (l : List (Sy × Value)) : tcells (p :: l) = scells p.1 p.2 ++ tcells l := by simp [tcells]
theorem tcells_length (l : List (Sy × Value)) : (tcells l).length = l.length * 6 := by
  induction l with
  | nil => rfl
  | cons p l ih => rw [tcells_cons, List.length_append, ih]; simp [scells]; omega
/-- A cell of a symbol. -/
theorem tcells_at (l : List (Sy × Value)) (i : Nat) (p : Sy × Value) (h : l[i]? = some p) (j : Nat) (hj : j < 6) : (tcells l)[i * 6 + j]? = (scells p.1 p.2)[j]? := by
  induction l generalizing i with
  | nil => simp at h
  | cons q l ih =>
    rw [tcells_cons]
    cases i with
    | zero =>
      simp at h
      subst h
      rw [List.getElem?_append_left (by simp [scells]; omega)]
      simp
    | succ i =>
      simp at h
      rw [List.getElem?_append_right (by simp [scells]; omega), show (i + 1) * 6 + j - (scells q.1 q.2).length = i * 6 + j by simp [scells]; omega]
      exact ih i h
/-- A table as plain data: its symbols by their numbers; what its map reads as. -/
structure Tb where
  syms : List Sy
  D : DataW Unit
/-- The key that a name reads as. -/
abbrev nkey (s : ByteArray) : Lit := .string s.data.toList
/-- The interned symbol with a name. -/
def Tb.find (m : Tb) (s : ByteArray) : Option Nat := m.syms.findIdx? fun y => y.intd && decide (y.name.data.toList = s.data.toList)
/-- The map agrees with the symbols. -/
def Tb.Maps (m : Tb) : Prop := ∀ s : ByteArray, match m.find s with
  | some i => Go.Maps.has m.D (nkey s) = true ∧ ∀ z, m.D.atKey (nkey s) z = .lit (.int .i64 i)
  | none => Go.Maps.has m.D (nkey s) = false
structure Tb.Ok (m : Tb) : Prop where
  len : m.syms.length ≤ 16384
  names : ∀ y ∈ m.syms, y.name.size ≤ 281474976710656
  maps : m.Maps
/-- How a table lies: its own block labelled 1, its row of symbols 2, its map 3, symbol i's properties 4 + i; nothing else is labelled. -/
structure TableAt (w : World) (tb : Nat) (G : Nat → Nat) (m : Tb) : Prop where
  ok : m.Ok
  new : ∀ k, w.heap.size ≤ k → G k = 0
  lab : G tb = 1
  lies : ∃ vs mb rs, w.heap[tb]? = some (.cells #[vs, .map (some mb)] 139 (0, 0)) ∧ rs.map Prod.fst = m.syms ∧ Row w G 2 165 6 vs rs.length (tcells rs) ∧
    G mb = 3 ∧ w.ownsMap Tryz.prog 9 (Go.plainElem Tryz.prog 3) mb m.syms.length m.D ∧ ∀ i s v, rs[i]? = some (s, v) → Row w G (4 + i) 127 3 v s.ps.length (pcells s.ps)
theorem TableAt.lt {w : World} {tb : Nat} {G : Nat → Nat} {m : Tb} (h : TableAt w tb G m) : tb < w.heap.size := by
  obtain ⟨vs, mb, rs, h1, _⟩ := h.lies; exact lt_at h1
theorem ownsMap_move {w w' : World} {P : Program} {k : TypeId} {R : Value → Option (DataW Unit × List MemPlace)} {b n : Nat} {D : DataW Unit} (h : w.ownsMap P k R b n D) (hb : w'.heap[b]? = w.heap[b]?) : w'.ownsMap P k R b n D := by
  obtain ⟨es, clock, h1, h2⟩ := h
  exact ⟨es, clock, hb.trans h1, h2⟩
/-- A table stands while its blocks stand. -/
theorem TableAt.keep {w w' : World} {tb : Nat} {G : Nat → Nat} {m : Tb} (h : TableAt w tb G m) (hb : ∀ k, k < w.heap.size → G k ≠ 0 → w'.heap[k]? = w.heap[k]?) : TableAt w' tb G m := by
  obtain ⟨ok, new, lab, vs, mb, rs, h1, h2, h3, h4, h5, h6⟩ := h
  refine ⟨ok, fun k hk => ?_, lab, vs, mb, rs, (hb tb (lt_at h1) (by omega)).trans h1, h2, h3.keep (fun k hk e => hb k hk (by omega)) (fun _ _ e => e), h4, ownsMap_move h5 (hb mb h5.lt (by omega)), fun i s v hi => (h6 i s v hi).keep (fun k hk e => hb k hk (by omega)) (fun _ _ e => e)⟩
  by_cases hk' : w.heap.size ≤ k
  · exact new k hk'
  · by_cases hz : G k = 0
    · exact hz
    · have h7 := hb k (by omega) hz
      rw [Array.getElem?_eq_none (by omega), Array.getElem?_eq_getElem (by omega)] at h7
      cases h7
theorem TableAt.below {w w' : World} {tb : Nat} {G : Nat → Nat} {m : Tb} (h : TableAt w tb G m) (hw : Below w.heap.size w w') : TableAt w' tb G m := h.keep fun k hk _ => hw.block k hk
/-- What a call on a table leaves. -/
structure WentT (w w' : World) (tb : Nat) (G : Nat → Nat) (m' : Tb) : Prop where
  keeps : Keeps G w w'
  table : ∃ G', TableAt w' tb G' m' ∧ ∀ k, k < w.heap.size → (G' k = 0 ↔ G k = 0)
/-- A new symbol is added: its own name is not interned yet, or it is not interned. -/
def Tb.add (m : Tb) (y : Sy) : Tb := ⟨m.syms ++ [y], if y.intd then m.D.put (nkey y.name) (.lit (.int .i64 m.syms.length)) else m.D⟩
theorem Tb.find_add (m : Tb) (y : Sy) (s : ByteArray) : (m.add y).find s = match m.find s with
    | some i => some i
    | none => if y.intd = true ∧ y.name.data.toList = s.data.toList then some m.syms.length else none := by
  unfold Tb.find Tb.add
  simp only [List.findIdx?_append]
  cases h : List.findIdx? (fun y => y.intd && decide (y.name.data.toList = s.data.toList)) m.syms with
  | some i => simp
  | none =>
    simp only [List.findIdx?_cons, List.findIdx?_nil]
    by_cases h2 : y.intd = true ∧ y.name.data.toList = s.data.toList
    · simp [h2.1, h2.2]
    · rw [if_neg h2]
      simp
      exact fun hi e => h2 ⟨hi, by rw [e]⟩
theorem Tb.Maps.add {m : Tb} (h : m.Maps) (hm : Go.Maps.IsMap m.D) (y : Sy) (hy : y.intd = true → m.find y.name = none) : (m.add y).Maps := by
  intro s
  have hs := h s
  rw [Tb.find_add]
  by_cases hi : y.intd = true
  · have hD : (m.add y).D = m.D.put (nkey y.name) (.lit (.int .i64 m.syms.length)) := by simp [Tb.add, hi]
    by_cases e : y.name.data.toList = s.data.toList
    · have hn : m.find s = none := by
        have := hy hi
        unfold Tb.find at this ⊢
        rw [← e]
        exact this
      rw [hn]
      simp only [hi, e, true_and, if_true]
      rw [hD]
      have ek : nkey y.name = nkey s := by simp [nkey, e]
      rw [ek]
      exact ⟨Go.Maps.has_put_same (k := nkey s) hm trivial _, fun z => Go.Maps.atKey_put_same (k := nkey s) hm trivial _ z⟩
    · have hne : nkey s ≠ nkey y.name := fun h2 => e (by injection h2 with h3; exact h3.symm)
      have hne2 : ¬ (y.intd = true ∧ y.name.data.toList = s.data.toList) := fun h2 => e h2.2
      cases hf : m.find s with
      | some i =>
        rw [hf] at hs
        simp only
        rw [hD, Go.Maps.has_put_other hne]
        exact ⟨hs.1, fun z => by rw [Go.Maps.atKey_put_other hne]; exact hs.2 z⟩
      | none =>
        rw [hf] at hs
        simp only [if_neg hne2]
        rw [hD, Go.Maps.has_put_other hne]
        exact hs
  · have hD : (m.add y).D = m.D := by simp [Tb.add, hi]
    have hne2 : ¬ (y.intd = true ∧ y.name.data.toList = s.data.toList) := fun h2 => hi h2.1
    cases hf : m.find s with
    | some i =>
      rw [hf] at hs
      simp only
      rw [hD]
      exact hs
    | none =>
      rw [hf] at hs
      simp only [if_neg hne2]
      rw [hD]
      exact hs
end Go.Proofs.YtbbopdkbokbafaaGreatDoor

/- The contracts of the symbol table's small functions. Condition of check: unicode/utf8's two tables hold what the program's text lays. -/
namespace Go.Proofs.YtbbopdkbokbafaaGreatDoor
open Go.RowKit Go.Lib Go.Shelf
theorem tvalid_core (tb n c : Nat) (a : Option Addr) (w : World) (b : Bool) (hb : decide ((0 : Int) < n) = b) (c0 : w.cell? ⟨tb, 0, none⟩ = some (.slice a n c)) :
    Calls Tryz.prog 85 #[hptr tb] w fun e w' => e = .returned (.bool b) ∧ w' = w := by
  go_enter Tryz.func85, Tryz.ntmps85
  go_wp2
  go_ret
  exact ⟨by rw [← hb]; simp, rfl⟩
theorem tvalid_nil (w : World) : Calls Tryz.prog 85 #[.pointer none] w fun e w' => e = .returned (.bool false) ∧ w' = w := by
  go_enter Tryz.func85, Tryz.ntmps85
  go_wp2
  go_ret
  exact ⟨rfl, rfl⟩
theorem full_core (tb n c : Nat) (a : Option Addr) (w : World) (b : Bool) (hb : ((n : Int) == 16384) = b) (c0 : w.cell? ⟨tb, 0, none⟩ = some (.slice a n c)) :
    Calls Tryz.prog 95 #[hptr tb] w fun e w' => e = .returned (.bool b) ∧ w' = w := by
  go_enter Tryz.func95, Tryz.ntmps95
  go_wp2
  go_ret
  exact ⟨rfl, rfl⟩
theorem at_no (tb n c : Nat) (a : Option Addr) (i : Int) (w : World) (hi : i < 0 ∨ (n : Int) ≤ i) (c0 : w.cell? ⟨tb, 0, none⟩ = some (.slice a n c)) :
    Calls Tryz.prog 130 #[hptr tb, .int .i64 i] w fun e w' => e = .returned (.pointer none) ∧ w' = w := by
  by_cases h : i < 0
  · have hd : decide (i < 0) = true := by simpa using h
    clear hi
    go_enter Tryz.func130, Tryz.ntmps130
    go_wp2
    go_ret
    exact ⟨rfl, rfl⟩
  · have hd : decide (i < 0) = false := by simpa using h
    have hd2 : (n : Int) ≤ i := by omega
    clear hi h
    go_enter Tryz.func130, Tryz.ntmps130
    go_wp2
    go_ret
    exact ⟨rfl, rfl⟩
theorem at_yes (tb n c g i : Nat) (w : World) (hi : i < n) (c0 : w.cell? ⟨tb, 0, none⟩ = some (.slice (some ⟨g, 0, none⟩) n c)) :
    Calls Tryz.prog 130 #[hptr tb, .int .i64 i] w fun e w' => e = .returned (.pointer (some ⟨g, i * 6, none⟩)) ∧ w' = w := by
  have hd : decide ((i : Int) < 0) = false := by simp
  have hd2 : ¬ (n : Int) ≤ (i : Int) := by omega
  have h0 : (0 : Int) ≤ (i : Int) := by omega
  have h1 : (i : Int) < (n : Int) := by omega
  go_enter Tryz.func130, Tryz.ntmps130
  go_wp2
  go_ret
  exact ⟨rfl, rfl⟩
/-- What check says of a name. -/
def ckD (s : ByteArray) : Int := if validD s.data.toList then (if 1000 < lenD s.data.toList then 4 else 0) else 5
theorem check_any (s : ByteArray) (w : World) (hs : s.size ≤ 281474976710656) (hT : Tabs w) :
    Calls Tryz.prog 94 #[.string s] w fun e w' => e = .returned (.int .i64 (ckD s)) ∧ Below w.heap.size w w' := by
  have cV := rvalid_any s w (by omega) hT
  unfold ckD
  cases hv : validD s.data.toList
  · rw [hv] at cV
    have HV := Lib.hid hv
    clear hv hT
    go_enter Tryz.func94, Tryz.ntmps94
    go_wp2_with (go_at_call 99; ((with_reducible refine cV.mono ?_); rintro e w' ⟨rfl, hb⟩))
    go_ret
    exact ⟨rfl, hb⟩
  · rw [hv] at cV
    have cL := fun W (hW : Below w.heap.size w W) => rlen_any s W (by omega) (hT.below hW hT.size)
    rw [if_pos rfl]
    by_cases h : 1000 < lenD s.data.toList
    · have hd : (1000 : Int) < (lenD s.data.toList : Int) := by omega
      rw [if_pos h]
      generalize lenD s.data.toList = n at *
      have CL := Lib.hid cL
      clear hv hT cL h
      go_enter Tryz.func94, Tryz.ntmps94
      go_wp2_with (go_at_call 99; ((with_reducible refine cV.mono ?_); rintro e w' ⟨rfl, hb⟩))
      refine (CL.out _ hb).mono ?_
      rintro e w2 ⟨rfl, hb2⟩
      have HB := Lib.hid (hb.trans (hb2.mono hb.size))
      clear hb2 hb CL
      go_wp2
      go_ret
      exact ⟨rfl, HB.out⟩
    · have hd : ¬ (1000 : Int) < (lenD s.data.toList : Int) := by omega
      rw [if_neg h]
      generalize lenD s.data.toList = n at *
      have CL := Lib.hid cL
      clear hv hT cL h
      go_enter Tryz.func94, Tryz.ntmps94
      go_wp2_with (go_at_call 99; ((with_reducible refine cV.mono ?_); rintro e w' ⟨rfl, hb⟩))
      refine (CL.out _ hb).mono ?_
      rintro e w2 ⟨rfl, hb2⟩
      have HB := Lib.hid (hb.trans (hb2.mono hb.size))
      clear hb2 hb CL
      go_wp2
      go_ret
      exact ⟨rfl, HB.out⟩
/-- A table's row of symbols. -/
theorem TableAt.row {w : World} {tb : Nat} {G : Nat → Nat} {m : Tb} (h : TableAt w tb G m) : ∃ a c, w.cell? ⟨tb, 0, none⟩ = some (.slice a m.syms.length c) := by
  obtain ⟨vs, mb, rs, h1, h2, h3, _⟩ := h.lies
  obtain ⟨a, c, rfl⟩ := h3.slice
  have hl : rs.length = m.syms.length := by rw [← h2]; simp
  exact ⟨a, c, by rw [cell_at h1, hl]; rfl⟩
theorem TableAt.valid {w : World} {tb : Nat} {G : Nat → Nat} {m : Tb} (h : TableAt w tb G m) (hm : 0 < m.syms.length) : Calls Tryz.prog 85 #[hptr tb] w fun e w' => e = .returned (.bool true) ∧ w' = w := by
  obtain ⟨a, c, h1⟩ := h.row
  exact tvalid_core tb _ c a w true (by simp; omega) h1
theorem TableAt.full {w : World} {tb : Nat} {G : Nat → Nat} {m : Tb} (h : TableAt w tb G m) : Calls Tryz.prog 95 #[hptr tb] w fun e w' => e = .returned (.bool (decide (m.syms.length = 16384))) ∧ w' = w := by
  obtain ⟨a, c, h1⟩ := h.row
  refine full_core tb _ c a w _ ?_ h1
  by_cases h2 : m.syms.length = 16384
  · rw [h2]; rfl
  · rw [decide_eq_false h2, beq_eq_false_iff_ne]; omega
theorem TableAt.many {w : World} {tb : Nat} {G : Nat → Nat} {m : Tb} (h : TableAt w tb G m) (hm : 0 < m.syms.length) : Calls Tryz.prog 36 #[hptr tb] w fun e w' => e = .returned (.int .i64 m.syms.length) ∧ w' = w := by
  obtain ⟨a, c, h1⟩ := h.row
  have cV := h.valid hm
  generalize m.syms.length = n at *
  clear h hm
  go_enter Tryz.func36, Tryz.ntmps36
  go_wp2_with (go_at_call 85; ((with_reducible refine cV.mono ?_); rintro e w' ⟨rfl, rfl⟩))
  go_ret
  exact ⟨rfl, rfl⟩
end Go.Proofs.YtbbopdkbokbafaaGreatDoor

/- add: a symbol at the end of the row of symbols. -/
namespace Go.Proofs.YtbbopdkbokbafaaGreatDoor
open Go.RowKit Go.Lib Go.Shelf
theorem step_append_row {P : Program} {ops : Array Oper} {o : Oper} {a : Act} {w : World} {K : Act → World → Prop} {Q : Exit → Act → World → Prop} {E : Prop} (hg : o.guard = none) (s x : Operand) (t : TypeId)
    (ho : o.op = .call { callee := .builtin .append, args := #[s, x], argTypes := #[t, t] })
    (e : TypeId) (i : TypeInfo) (z : Value) (size bytes : Nat) (ht : P.underlying t = some (.slice e)) (hi : P.info? e = some i) (hz : i.zero = some z)
    (hsize : i.size = size) (hby : i.bytes = bytes) (hzs : z.cells.size = size) (hsz : 0 < size)
    (v : Value) (n : Nat) (xs : List Value) (hs : a.eval s = v) (G : Nat → Nat) (L : Nat) (hrow : Row w G L e size v n xs)
    (ad : Addr) (m c : Nat) (news : List Value) (hx : a.eval x = .slice (some ad) m c) (hl : news.length = m * size) (hnews : ∀ j u, news[j]? = some u → w.cell? (ad.add j) = some u) (h1 : ∀ u ∈ news, u.oneCell' = true)
    (h63 : n + m ≤ maxLen) (hbytes : (n + m) * bytes ≤ 140737488355328)
    (h : ∀ v' w', Row w' (fun k => if k < w.heap.size then G k else L) L e size v' (n + m) (xs ++ news) → w.grownBy w' v.ownBlock → (v' = .slice none 0 0 ↔ v = .slice none 0 0 ∧ m = 0) → K (a.put o.dst v') w') :
    if Region.wanted o (yielded ops a.tmps) = true then Oper.wp P o a w K Q else E := by
  have hw : Region.wanted o (yielded ops a.tmps) = true := by simp [Region.wanted, hg]
  rw [if_pos hw]
  obtain ⟨v', w', hr, h2, h3, h4, h5⟩ := run_append_row (P := P) w t o.type e i z size bytes ht hi hz hsize hby hzs hsz v n xs hrow.own ad m c news hl hnews h1 h63 hbytes
  have hfin := h v' w' ⟨h2, fun k hk => by
    rcases h5 k hk with h6 | h6
    · have := hrow.lt k h6
      rw [if_pos this]; exact hrow.lab k h6
    · rw [if_neg (by omega)]⟩ h3 h4
  unfold Oper.wp execOp
  simp only [ho, resolve, invoke, builtin, Sem.run_bind, Sem.run_pure, Result.andThen_ok, List.map_toArray, List.map_cons, List.map_nil, hs, hx, hr]
  exact hfin
/-- A new symbol's cells. -/
abbrev fy (s : ByteArray) (b : Bool) : Sy := ⟨(0, 0), false, [], s, b⟩
abbrev fcells (s : ByteArray) (b : Bool) : List Value := [.int .i64 0, .int .i64 0, .bool false, .slice none 0 0, .string s, .bool b]
theorem info_sym : (Tryz.prog.info? 165).map (fun i => (i.zero, i.size, i.bytes)) = some (some (.agg #[.int .i64 0, .int .i64 0, .bool false, .slice none 0 0, .string ⟨#[]⟩, .bool false]), 6, 72) := by kernel_rfl
/-- What add leaves. -/
structure AddedT (w w' : World) (tb : Nat) (G : Nat → Nat) (mv vs' : Value) (n : Nat) (xs : List Value) : Prop where
  tab : w'.heap[tb]? = some (.cells #[vs', mv] 139 (0, 0))
  row : Row w' (fun k => if k < w.heap.size then G k else 2) 2 165 6 vs' n xs
  os : w'.os = w.os
  tape : w'.tape = w.tape
  output : w'.output = w.output
  size : w.heap.size ≤ w'.heap.size
  block : ∀ k, k < w.heap.size → G k ≠ 1 → G k ≠ 2 → w'.heap[k]? = w.heap[k]?
theorem added_mid {w wm w1 : World} {tb n c : Nat} {ao : Option Addr} {mv v' : Value} {G : Nat → Nat} {xs news : List Value} (hw : Below w.heap.size w wm) (hh : w.heap[tb]? = some (.cells #[.slice ao n c, mv] 139 (0, 0))) (hr : Row w G 2 165 6 (.slice ao n c) n xs) (hG : G tb = 1)
    (hrow : Row w1 (fun k => if k < wm.heap.size then G k else 2) 2 165 6 v' (n + 1) (xs ++ news)) (hgr : wm.grownBy w1 (Value.slice ao n c).ownBlock) :
    ∃ g cap, v' = .slice (some ⟨g, 0, none⟩) (n + 1) cap ∧ w1.cell? ⟨tb, 0, none⟩ = some (.slice ao n c) ∧ w1.frozen? ⟨tb, 0, none⟩ = false ∧ AddedT w (w1.setCell ⟨tb, 0, none⟩ v') tb G mv v' (n + 1) (xs ++ news) := by
  have htl := lt_at hh
  have hzw := hw.size
  have hzg := hgr.size
  have hlab : ∀ k, (Value.slice ao n c).ownBlock = some k → k ≠ tb ∧ G k = 2 ∧ k < w.heap.size := fun k hk => ⟨(fun e => by have := hr.lab k hk; rw [e, hG] at this; omega), hr.lab k hk, hr.lt k hk⟩
  obtain ⟨g, cap, cur, hv, hg2, hgh, _⟩ := hrow.at (by omega)
  have hh1 : w1.heap[tb]? = some (.cells #[.slice ao n c, mv] 139 (0, 0)) := (hgr.block tb (by omega) (fun e => (hlab tb e.symm).1 rfl)).trans ((hw.block tb htl).trans hh)
  have hgl := lt_at hgh
  have hgt : g ≠ tb := by
    intro e
    rw [e, if_pos (by omega), hG] at hg2
    omega
  subst hv
  refine ⟨g, cap, rfl, cell_at hh1, frozen_at hh1, setCell_at hh1 _, ⟨?_, fun k hk => ?_⟩, ?_, ?_, ?_, ?_, fun k hk n1 n2 => ?_⟩
  · obtain ⟨o1, o2⟩ := hrow.own
    refine ⟨o1, ?_⟩
    rcases o2 with ⟨e, _⟩ | ⟨g', cap', cur', e, e0, e1, e2⟩
    · cases e
    · cases e
      exact .inr ⟨g, cap, cur', rfl, e0, (setCell_off _ hgt).trans e1, e2⟩
  · cases hk
    show (if g < w.heap.size then G g else 2) = 2
    by_cases h : g < w.heap.size
    · rw [if_pos h]
      rw [if_pos (by omega)] at hg2
      exact hg2
    · rw [if_neg h]
  · exact hgr.os.trans hw.os
  · exact hgr.tape.trans hw.tape
  · exact hgr.output.trans hw.output
  · simp [World.setCell]; omega
  · rw [setCell_off _ (by intro e; have e2 : k = tb := e; rw [e2, hG] at n1; exact n1 rfl)]
    exact (hgr.block k (by omega) (fun e => n2 (hlab k e.symm).2.1)).trans (hw.block k hk)
theorem news_six (W : World) (a b c d e f : Value) (T : TypeId) : ∀ (j : Nat) (x : Value), [a, b, c, d, e, f][j]? = some x → (W.alloc (.cells #[a, b, c, d, e, f] T)).cell? ((⟨W.heap.size, 0, none⟩ : Addr).add j) = some x := by
  intro j x hj
  match j, hj with
  | 0, hj => simp at hj; subst hj; simp [Addr.add]
  | 1, hj => simp at hj; subst hj; simp [Addr.add]
  | 2, hj => simp at hj; subst hj; simp [Addr.add]
  | 3, hj => simp at hj; subst hj; simp [Addr.add]
  | 4, hj => simp at hj; subst hj; simp [Addr.add]
  | 5, hj => simp at hj; subst hj; simp [Addr.add]
  | (j + 6), hj => simp at hj
set_option maxHeartbeats 4000000 in
set_option maxRecDepth 20000 in
theorem add_core (tb n : Nat) (s : ByteArray) (b : Bool) (mv vs : Value) (G : Nat → Nat) (xs : List Value) (w : World) (hh : w.heap[tb]? = some (.cells #[vs, mv] 139 (0, 0))) (hr : Row w G 2 165 6 vs n xs) (hG : G tb = 1) (hn : n < 16384) :
    Calls Tryz.prog 96 #[hptr tb, .agg #[.int .i64 0, .int .i64 0, .bool false, .slice none 0 0, .string s, .bool b]] w fun e w' => e = .returned (.int .i64 n) ∧ ∃ vs', AddedT w w' tb G mv vs' (n + 1) (xs ++ fcells s b) := by
  obtain ⟨i0, hi0, hz0, hz1, hz2⟩ := info_parts info_sym
  obtain ⟨ao, co, rfl⟩ := hr.slice
  have c0 : w.cell? ⟨tb, 0, none⟩ = some (.slice ao n co) := cell_at hh
  have z0 := lt_at hh
  have hbox : Below w.heap.size w (w.alloc (.cells #[.int .i64 0, .int .i64 0, .bool false, .slice none 0 0, .string s, .bool b] 165)) := (Below.refl _ _).alloc (Nat.le_refl _) _
  have hmid : Below w.heap.size w ((w.alloc (.cells #[.int .i64 0, .int .i64 0, .bool false, .slice none 0 0, .string s, .bool b] 165)).drew.alloc (.cells #[.int .i64 0, .int .i64 0, .bool false, .slice none 0 0, .string s, .bool b] 165)) := hbox.drew.alloc hbox.size _
  have hrm := hr.keep (G' := G) (fun k hk _ => hmid.block k hk) (fun _ _ e => e)
  have hnm := news_six (w.alloc (.cells #[.int .i64 0, .int .i64 0, .bool false, .slice none 0 0, .string s, .bool b] 165)).drew (.int .i64 0) (.int .i64 0) (.bool false) (.slice none 0 0) (.string s) (.bool b) 165
  rw [show (w.alloc (.cells #[.int .i64 0, .int .i64 0, .bool false, .slice none 0 0, .string s, .bool b] 165)).drew.heap.size = w.heap.size + 1 from by simp [World.drew]] at hnm
  have h1c : ∀ u ∈ fcells s b, u.oneCell' = true := by intro u hu; simp [fcells] at hu; rcases hu with rfl | rfl | rfl | rfl | rfl <;> rfl
  have hc3 : n + 1 ≤ maxLen := by unfold maxLen; omega
  have hc4 : (n + 1) * 72 ≤ 140737488355328 := by omega
  have H := Lib.hid (And.intro hrm (And.intro hnm (And.intro h1c (And.intro hc3 (And.intro hc4 (And.intro hh (And.intro hr (And.intro hG hmid))))))))
  clear hrm hnm h1c hc3 hc4 hh hr hG hmid hbox
  go_enter Tryz.func96, Tryz.ntmps96
  go_wp2_with fail
  go_region_law (refine step_append_row rfl _ _ 136 rfl 165 i0 (.agg #[.int .i64 0, .int .i64 0, .bool false, .slice none 0 0, .string ⟨#[]⟩, .bool false]) 6 72 Tryz.underlying136 hi0 hz0 hz1 hz2 rfl (by decide) _ _ _ rfl G 2 H.out.1 ⟨w.heap.size + 1, 0, none⟩ 1 1 (fcells s b) rfl rfl H.out.2.1 H.out.2.2.1 H.out.2.2.2.1 H.out.2.2.2.2.1 ?_; intro v' w1 hrow hgr _; obtain ⟨g, cap', rfl, k1, q1, hpp⟩ := added_mid H.out.2.2.2.2.2.2.2.2 H.out.2.2.2.2.2.1 H.out.2.2.2.2.2.2.1 H.out.2.2.2.2.2.2.2.1 hrow hgr; have HP := Lib.hid hpp; clear hrow hgr hpp)
  all_goals (go_wp2; go_ret)
  all_goals exact ⟨rfl, _, HP.out⟩
end Go.Proofs.YtbbopdkbokbafaaGreatDoor

/- A table behind add; addInterned. -/
namespace Go.Proofs.YtbbopdkbokbafaaGreatDoor
open Go.RowKit Go.Lib Go.Shelf
theorem own_slim {w : World} {D : Nat → Nat} {L e size n : Nat} {v : Value} {xs : List Value} (h : Row w D L e size v n xs) : ∀ D' : Nat → Nat, (∀ k, v.ownBlock = some k → D' k = L) → Row w D' L e size v n xs := fun _ hd => ⟨h.own, hd⟩
theorem Tb.isMap {w : World} {mb n : Nat} {m : Tb} (h : w.ownsMap Tryz.prog 9 (Go.plainElem Tryz.prog 3) mb n m.D) : Go.Maps.IsMap m.D := by
  obtain ⟨es, clock, _, _, _, e⟩ := h
  exact ⟨_, e⟩
/-- A table behind an added symbol. -/
theorem added_table {w w1 w2 : World} {tb mb : Nat} {G : Nat → Nat} {m : Tb} {vs' : Value} {rs : List (Sy × Value)} {s : ByteArray} {b : Bool} (ok : m.Ok) (lab : G tb = 1) (htl : tb < w.heap.size) (h2 : rs.map Prod.fst = m.syms)
    (h4 : G mb = 3) (h5 : w.ownsMap Tryz.prog 9 (Go.plainElem Tryz.prog 3) mb m.syms.length m.D) (h6 : ∀ i s v, rs[i]? = some (s, v) → Row w G (4 + i) 127 3 v s.ps.length (pcells s.ps))
    (hA : AddedT w w1 tb G (.map (some mb)) vs' (rs.length + 1) (tcells rs ++ fcells s b)) (hz : w1.heap.size ≤ w2.heap.size) (ho : w2.os = w1.os) (ht : w2.tape = w1.tape) (hp : w2.output = w1.output)
    (hblk : ∀ k, k < w1.heap.size → k ≠ mb → w2.heap[k]? = w1.heap[k]?) (hm : w2.ownsMap Tryz.prog 9 (Go.plainElem Tryz.prog 3) mb (m.syms.length + 1) (m.add (fy s b)).D)
    (hl : m.syms.length < 16384) (hs : s.size ≤ 281474976710656) (hf : b = true → m.find s = none) : WentT w w2 tb G (m.add (fy s b)) := by
  have hmb := h5.lt
  have hz1 := hA.size
  have htm : tb ≠ mb := fun e => by rw [e, h4] at lab; omega
  refine ⟨⟨ho.trans hA.os, ht.trans hA.tape, hp.trans hA.output, by omega, fun k hk hz0 => (hblk k (by omega) (fun e => by rw [e, h4] at hz0; omega)).trans (hA.block k hk (by omega) (by omega))⟩, fun k => if k < w.heap.size then G k else if vs'.ownBlock = some k then 2 else 0, ?_, fun k hk => by simp only [if_pos hk]⟩
  refine ⟨⟨by simp [Tb.add]; omega, fun y hy => ?_, ok.maps.add (Tb.isMap h5) _ hf⟩, fun k hk => ?_, by simp only [if_pos htl]; exact lab, vs', mb, rs ++ [(fy s b, .slice none 0 0)], (hblk tb (by omega) htm).trans hA.tab, by simp [Tb.add, h2], ?_, by simp only [if_pos hmb]; exact h4, by simpa [Tb.add] using hm, fun i s' v hi => ?_⟩
  · simp only [Tb.add, List.mem_append, List.mem_singleton] at hy
    rcases hy with hy | rfl
    · exact ok.names y hy
    · exact hs
  · rw [if_neg (by omega)]
    by_cases e : vs'.ownBlock = some k
    · have := hA.row.lt k e
      omega
    · rw [if_neg e]
  · have e1 : tcells (rs ++ [(fy s b, .slice none 0 0)]) = tcells rs ++ fcells s b := by rw [tcells_append]; rfl
    have e2 : (rs ++ [(fy s b, Value.slice none 0 0)]).length = rs.length + 1 := by simp
    rw [e1, e2]
    have hk := hA.row.keep (w' := w2) (G' := fun k => if k < w.heap.size then G k else 2) (fun k hk e => hblk k hk (fun e2 => by rw [e2, if_pos hmb, h4] at e; omega)) (fun _ _ e => e)
    refine own_slim hk _ (fun k hk2 => ?_)
    have e3 := hA.row.lab k hk2
    by_cases h : k < w.heap.size
    · simp only [if_pos h] at e3 ⊢; exact e3
    · simp only [if_neg h, if_pos hk2]
  · by_cases hi2 : i < rs.length
    · rw [List.getElem?_append_left hi2] at hi
      exact (h6 i s' v hi).keep (fun k hk e => (hblk k (by omega) (fun e2 => by rw [e2, h4] at e; omega)).trans (hA.block k hk (by omega) (by omega))) (fun k hk e => by simp only [if_pos hk]; exact e)
    · rw [List.getElem?_append_right (by omega)] at hi
      have h0 : i - rs.length = 0 := by
        rcases Nat.eq_zero_or_pos (i - rs.length) with h | h
        · exact h
        · rw [List.getElem?_eq_none (by simp; omega)] at hi; cases hi
      rw [h0] at hi
      simp at hi
      obtain ⟨rfl, rfl⟩ := hi
      exact Row.nil _ _ _ _ _
theorem WentT.after {w W w2 : World} {tb : Nat} {G : Nat → Nat} {m : Tb} (hW : Below w.heap.size w W) (h : WentT W w2 tb G m) : WentT w w2 tb G m := by
  obtain ⟨hk, G', h1, h2⟩ := h
  exact ⟨(Keeps.of_below hW).trans hk (fun _ _ e => e), G', h1, fun k hk => h2 k (Nat.lt_of_lt_of_le hk hW.size)⟩
theorem skey : Go.Maps.Keyed Tryz.prog 9 := Go.Maps.string_keyed Tryz.underlying9
theorem zeroE (w : World) : (zeroValue 3).run Tryz.prog w = .ok (.int .i64 0) w := by kernel_rfl
set_option maxHeartbeats 1000000 in
theorem addI_any {w : World} {tb : Nat} {G : Nat → Nat} {m : Tb} (h : TableAt w tb G m) (s : ByteArray) (hs : s.size ≤ 281474976710656) (hl : m.syms.length < 16384) (hf : m.find s = none) :
    Calls Tryz.prog 107 #[hptr tb, .string s] w fun e w' => e = .returned (.int .i64 m.syms.length) ∧ WentT w w' tb G (m.add (fy s true)) := by
  have cC := clone_any s w hs
  obtain ⟨ok, new, lab, vs, mb, rs, h1, h2, h3, h4, h5, h6⟩ := h
  have hrl : rs.length = m.syms.length := by rw [← h2]; simp
  have cA := fun W (hW : Below w.heap.size w W) => add_core tb rs.length s true (.map (some mb)) vs G (tcells rs) W ((hW.block tb (lt_at h1)).trans h1) (h3.keep (fun k hk _ => hW.block k hk) (fun _ _ e => e)) lab (by omega)
  have CA := Lib.hid cA
  have h0 : ∀ W, Below w.heap.size w W → tb < W.heap.size ∧ W.ownsMap Tryz.prog 9 (Go.plainElem Tryz.prog 3) mb m.syms.length m.D ∧ ∀ i s v, rs[i]? = some (s, v) → Row W G (4 + i) 127 3 v s.ps.length (pcells s.ps) := fun W hW =>
    ⟨Nat.lt_of_lt_of_le (lt_at h1) hW.size, ownsMap_move h5 (hW.block mb h5.lt), fun i s v hi => (h6 i s v hi).keep (fun k hk _ => hW.block k hk) (fun _ _ e => e)⟩
  have H := Lib.hid (And.intro ok (And.intro lab (And.intro h2 (And.intro h4 h0))))
  have HL := Lib.hid (And.intro hs (And.intro hl (And.intro hf hrl)))
  have hkey := Go.WideMaps.keyOf_string_mk (P := Tryz.prog) (k := 9) Tryz.underlying9 (s := s) (by unfold maxLen; omega)
  have hn63 : m.syms.length < maxLen := by unfold maxLen; omega
  have hwf : (Lit.int .i64 (m.syms.length : Int)).wf = true := Go.WalkArith.wf_i64 (by omega)
  clear cA ok new lab h0 h1 h2 h3 h4 h5 h6 hs hl hf hrl
  go_enter Tryz.func107, Tryz.ntmps107
  go_wp2_with (go_at_call 97; ((with_reducible refine cC.mono ?_); rintro e W ⟨rfl, hb⟩))
  refine (CA.out _ hb).mono ?_
  rintro e W1 ⟨rfl, vs', hA⟩
  have c1 : W1.cell? ⟨tb, 1, none⟩ = some (.map (some mb)) := cell_at hA.tab
  have hmo : W1.ownsMap Tryz.prog 9 (Go.plainElem Tryz.prog 3) mb m.syms.length m.D := ownsMap_move (H.out.2.2.2.2 W hb).2.1 (hA.block mb (H.out.2.2.2.2 W hb).2.1.lt (by have := H.out.2.2.2.1; omega) (by have := H.out.2.2.2.1; omega))
  have HO := Lib.hid (And.intro hA (And.intro hb hmo))
  clear hA hb CA hmo
  rw [HL.out.2.2.2]
  go_wp2_with (at_mapUpdate; refine Go.wpList_mapUpdate_own _ rfl _ _ _ 137 rfl 9 3 skey Tryz.underlying137 _ mb m.syms.length _ rfl HO.out.2.2 hn63 _ _ _ rfl rfl hkey _ [] (Go.plainElem_int Tryz.underlying3 hwf) ?_)
  intro w2 hown2 hgr2
  have HQ := Lib.hid (And.intro hown2 hgr2)
  clear hown2 hgr2 c1
  go_wp2
  go_ret
  obtain ⟨hA, hb, _⟩ := HO.out
  obtain ⟨hown2, hgr2⟩ := HQ.out
  obtain ⟨ok, lab, h2, h4, h0⟩ := H.out
  obtain ⟨q1, q2, q3⟩ := h0 W hb
  exact ⟨rfl, WentT.after hb (added_table ok lab q1 h2 h4 q2 q3 hA hgr2.size hgr2.os hgr2.tape hgr2.output (fun k hk n => hgr2.block k hk (fun e => n (by cases e; rfl))) hown2 HL.out.2.1 HL.out.1 (fun _ => HL.out.2.2.1))⟩
theorem WentT.of_below {w w' : World} {tb : Nat} {G : Nat → Nat} {m : Tb} (h : TableAt w tb G m) (hw : Below w.heap.size w w') : WentT w w' tb G m := ⟨Keeps.of_below hw, G, h.below hw, fun _ _ => Iff.rfl⟩
/-- add of a symbol that is not interned. -/
theorem addF_any {w : World} {tb : Nat} {G : Nat → Nat} {m : Tb} (h : TableAt w tb G m) (s : ByteArray) (hs : s.size ≤ 281474976710656) (hl : m.syms.length < 16384) :
    Calls Tryz.prog 96 #[hptr tb, .agg #[.int .i64 0, .int .i64 0, .bool false, .slice none 0 0, .string s, .bool false]] w fun e w' => e = .returned (.int .i64 m.syms.length) ∧ WentT w w' tb G (m.add (fy s false)) := by
  obtain ⟨ok, new, lab, vs, mb, rs, h1, h2, h3, h4, h5, h6⟩ := h
  have hrl : rs.length = m.syms.length := by rw [← h2]; simp
  refine (add_core tb rs.length s false (.map (some mb)) vs G (tcells rs) w h1 h3 lab (by omega)).mono ?_
  rintro e w1 ⟨rfl, vs', hA⟩
  have hb := hA.block mb h5.lt (by omega) (by omega)
  exact ⟨by rw [hrl], added_table ok lab (lt_at h1) h2 h4 h5 h6 hA (Nat.le_refl _) rfl rfl rfl (fun _ _ _ => rfl) ((ownsMap_move h5 hb).mono (Nat.le_succ _)) hl hs (fun e => by cases e)⟩
end Go.Proofs.YtbbopdkbokbafaaGreatDoor

/- The contracts of Fresh, Intern, Find, Name and Interned. Condition: unicode/utf8's two tables hold what the program's text lays. -/
namespace Go.Proofs.YtbbopdkbokbafaaGreatDoor
open Go.RowKit Go.Lib Go.Shelf
/-- What Fresh answers, and the table behind it. -/
def Tb.fresh (m : Tb) (s : ByteArray) : Int × Int × Tb := if ckD s ≠ 0 then (0, ckD s, m) else if m.syms.length = 16384 then (0, 7, m) else (m.syms.length, 0, m.add (fy s false))
def Tb.intern (m : Tb) (s : ByteArray) : Int × Int × Tb := if ckD s ≠ 0 then (0, ckD s, m) else match m.find s with
  | some i => (i, 0, m)
  | none => if m.syms.length = 16384 then (0, 7, m) else (m.syms.length, 0, m.add (fy s true))
theorem fresh_err (tb : Nat) (s : ByteArray) (er : Int) (w : World) (he : (er != 0) = true) (cV : Calls Tryz.prog 85 #[hptr tb] w fun e w' => e = .returned (.bool true) ∧ w' = w)
    (cK : Calls Tryz.prog 94 #[.string s] w fun e w' => e = .returned (.int .i64 er) ∧ Below w.heap.size w w') :
    Calls Tryz.prog 47 #[hptr tb, .string s] w fun e w' => e = .returned (.tuple #[.int .i64 0, .int .i64 er]) ∧ Below w.heap.size w w' := by
  go_enter Tryz.func47, Tryz.ntmps47
  go_wp2_with (first
    | (go_at_call 85; ((with_reducible refine cV.mono ?_); rintro e w' ⟨rfl, rfl⟩))
    | (go_at_call 94; ((with_reducible refine cK.mono ?_); rintro e w' ⟨rfl, hb⟩)))
  go_ret2
  exact ⟨rfl, hb⟩
set_option maxHeartbeats 1000000 in
theorem fresh_any {w : World} {tb : Nat} {G : Nat → Nat} {m : Tb} (h : TableAt w tb G m) (hm : 0 < m.syms.length) (s : ByteArray) (hs : s.size ≤ 281474976710656) (hT : Tabs w) :
    Calls Tryz.prog 47 #[hptr tb, .string s] w fun e w' => e = .returned (.tuple #[.int .i64 (m.fresh s).1, .int .i64 (m.fresh s).2.1]) ∧ WentT w w' tb G (m.fresh s).2.2 := by
  have cV := h.valid hm
  have cK := check_any s w hs hT
  unfold Tb.fresh
  by_cases he : ckD s ≠ 0
  · rw [if_pos he]
    refine (fresh_err tb s (ckD s) w (by simpa using he) cV cK).mono ?_
    rintro e w' ⟨rfl, hb⟩
    exact ⟨rfl, .of_below h hb⟩
  · rw [if_neg he]
    have he0 : ckD s = 0 := by simpa using he
    rw [he0] at cK
    have hfull := fun W (hW : Below w.heap.size w W) => (h.below hW).full
    by_cases hf : m.syms.length = 16384
    · rw [if_pos hf]
      rw [decide_eq_true hf] at hfull
      have CF := Lib.hid hfull
      have H := Lib.hid h
      clear hfull h hm he he0 hf
      go_enter Tryz.func47, Tryz.ntmps47
      go_wp2_with (first
        | (go_at_call 85; ((with_reducible refine cV.mono ?_); rintro e w' ⟨rfl, rfl⟩))
        | (go_at_call 94; ((with_reducible refine cK.mono ?_); rintro e w' ⟨rfl, hb⟩))
        | (go_at_call 95; ((with_reducible refine (CF.out _ hb).mono ?_); rintro e w' ⟨rfl, rfl⟩)))
      go_ret2
      exact ⟨rfl, .of_below H.out hb⟩
    · rw [if_neg hf]
      rw [decide_eq_false hf] at hfull
      have CF := Lib.hid hfull
      have CC := Lib.hid (fun W => clone_any s W hs)
      have CA := Lib.hid (fun W (hW : Below w.heap.size w W) => addF_any (h.below hW) s hs (by have := h.ok.len; omega))
      clear hfull h hm he he0 hf
      go_enter Tryz.func47, Tryz.ntmps47
      go_wp2_with (first
        | (go_at_call 85; ((with_reducible refine cV.mono ?_); rintro e w' ⟨rfl, rfl⟩))
        | (go_at_call 94; ((with_reducible refine cK.mono ?_); rintro e w' ⟨rfl, hb⟩))
        | (go_at_call 95; ((with_reducible refine (CF.out _ hb).mono ?_); rintro e w' ⟨rfl, rfl⟩)))
      refine (CC.out _).mono ?_
      rintro e W2 ⟨rfl, hb2⟩
      have HB := Lib.hid (hb.trans (hb2.mono hb.size))
      clear hb hb2 CC CF
      go_wp2_with fail
      refine (CA.out _ HB.out).mono ?_
      rintro e W3 ⟨rfl, hw⟩
      have HW := Lib.hid (WentT.after HB.out hw)
      clear hw CA
      go_wp2
      go_ret2
      exact ⟨rfl, HW.out⟩
end Go.Proofs.YtbbopdkbokbafaaGreatDoor

/- The contracts of Intern and Find. Condition of Intern: unicode/utf8's two tables hold what the program's text lays. -/
namespace Go.Proofs.YtbbopdkbokbafaaGreatDoor
open Go.RowKit Go.Lib Go.Shelf
/-- The map of a table, and what it says of a name. -/
theorem TableAt.look {w : World} {tb : Nat} {G : Nat → Nat} {m : Tb} (h : TableAt w tb G m) : ∃ mb, w.cell? ⟨tb, 1, none⟩ = some (.map (some mb)) ∧ w.ownsMap Tryz.prog 9 (Go.plainElem Tryz.prog 3) mb m.syms.length m.D := by
  obtain ⟨vs, mb, rs, h1, _, _, _, h5, _⟩ := h.lies
  exact ⟨mb, cell_at h1, h5⟩
theorem Tb.look_some {m : Tb} (h : m.Maps) {s : ByteArray} {i : Nat} (hf : m.find s = some i) : Go.Maps.has m.D (nkey s) = true ∧ ∀ z, m.D.atKey (nkey s) z = .lit (.int .i64 i) := by
  have := h s
  rw [hf] at this
  exact this
theorem Tb.look_none {m : Tb} (h : m.Maps) {s : ByteArray} (hf : m.find s = none) : Go.Maps.has m.D (nkey s) = false := by
  have := h s
  rw [hf] at this
  exact this
theorem lit_int {a b : Int} (h : (.lit (.int .i64 a) : DataW Unit) = .lit (.int .i64 b)) : b = a := by
  injection h with h
  injection h with _ h
  exact h.symm
/-- What Find answers. -/
def Tb.found (m : Tb) (s : ByteArray) : Int × Bool := match m.find s with
  | some i => (i, true)
  | none => (0, false)
theorem intern_err (tb : Nat) (s : ByteArray) (er : Int) (w : World) (he : (er != 0) = true) (cV : Calls Tryz.prog 85 #[hptr tb] w fun e w' => e = .returned (.bool true) ∧ w' = w)
    (cK : Calls Tryz.prog 94 #[.string s] w fun e w' => e = .returned (.int .i64 er) ∧ Below w.heap.size w w') :
    Calls Tryz.prog 58 #[hptr tb, .string s] w fun e w' => e = .returned (.tuple #[.int .i64 0, .int .i64 er]) ∧ Below w.heap.size w w' := by
  go_enter Tryz.func58, Tryz.ntmps58
  go_wp2_with (first
    | (go_at_call 85; ((with_reducible refine cV.mono ?_); rintro e w' ⟨rfl, rfl⟩))
    | (go_at_call 94; ((with_reducible refine cK.mono ?_); rintro e w' ⟨rfl, hb⟩)))
  go_ret2
  exact ⟨rfl, hb⟩
set_option maxHeartbeats 2000000 in
theorem intern_any {w : World} {tb : Nat} {G : Nat → Nat} {m : Tb} (h : TableAt w tb G m) (hm : 0 < m.syms.length) (s : ByteArray) (hs : s.size ≤ 281474976710656) (hT : Tabs w) :
    Calls Tryz.prog 58 #[hptr tb, .string s] w fun e w' => e = .returned (.tuple #[.int .i64 (m.intern s).1, .int .i64 (m.intern s).2.1]) ∧ WentT w w' tb G (m.intern s).2.2 := by
  have cV := h.valid hm
  have cK := check_any s w hs hT
  unfold Tb.intern
  by_cases he : ckD s ≠ 0
  · rw [if_pos he]
    refine (intern_err tb s (ckD s) w (by simpa using he) cV cK).mono ?_
    rintro e w' ⟨rfl, hb⟩
    exact ⟨rfl, .of_below h hb⟩
  · rw [if_neg he]
    have he0 : ckD s = 0 := by simpa using he
    rw [he0] at cK
    obtain ⟨mb, c1, hown⟩ := h.look
    have htl := h.lt
    have hkey := Go.WideMaps.keyOf_string_mk (P := Tryz.prog) (k := 9) Tryz.underlying9 (s := s) (by unfold maxLen; omega)
    have hmap := h.ok.maps
    have hx : ∀ W, Below w.heap.size w W → W.cell? ⟨tb, 1, none⟩ = some (.map (some mb)) ∧ W.ownsMap Tryz.prog 9 (Go.plainElem Tryz.prog 3) mb m.syms.length m.D := fun W hW => ⟨(hW.cell (p := ⟨tb, 1, none⟩) htl).trans c1, ownsMap_move hown (hW.block mb hown.lt)⟩
    have HX := Lib.hid hx
    have H := Lib.hid h
    have hfull := fun W (hW : Below w.heap.size w W) => (h.below hW).full
    clear hx c1 hown htl he he0
    cases hf : m.find s with
    | some i =>
      have hl := Tb.look_some hmap hf
      have hhas : Go.Maps.has m.D (Lit.string s.data.toList) = true := hl.1
      have HO := Lib.hid hl.2
      clear h hm hmap hf hl hfull
      go_enter Tryz.func58, Tryz.ntmps58
      go_wp2_with (first
        | (go_at_call 85; ((with_reducible refine cV.mono ?_); rintro e w' ⟨rfl, rfl⟩))
        | (go_at_call 94; ((with_reducible refine cK.mono ?_); rintro e W ⟨rfl, hb⟩; obtain ⟨q1, q2⟩ := HX.out W hb; have HQ := Lib.hid q2; clear q2))
        | (at_lookup; refine Go.wpList_lookup_own_ok_int _ rfl _ _ 137 rfl 9 3 .i64 skey Tryz.underlying137 Tryz.underlying3 (zeroE _) mb m.syms.length m.D rfl HQ.out _ _ rfl hkey ?_; intro c hat hwc; obtain rfl : c = (i : Int) := lit_int ((HO.out _).symm.trans hat)))
      go_ret2
      exact ⟨rfl, .of_below H.out hb⟩
    | none =>
      have hhas : Go.Maps.has m.D (Lit.string s.data.toList) = false := Tb.look_none hmap hf
      have HO := Lib.hid (Go.Maps.atKey_of_not_has hhas)
      by_cases hfl : m.syms.length = 16384
      · simp only [if_pos hfl]
        rw [decide_eq_true hfl] at hfull
        have CF := Lib.hid hfull
        clear h hm hmap hf hfull hfl
        go_enter Tryz.func58, Tryz.ntmps58
        go_wp2_with (first
          | (go_at_call 85; ((with_reducible refine cV.mono ?_); rintro e w' ⟨rfl, rfl⟩))
          | (go_at_call 94; ((with_reducible refine cK.mono ?_); rintro e W ⟨rfl, hb⟩; obtain ⟨q1, q2⟩ := HX.out W hb; have HQ := Lib.hid q2; clear q2))
          | (go_at_call 95; ((with_reducible refine (CF.out _ hb).mono ?_); rintro e w' ⟨rfl, rfl⟩))
          | (at_lookup; refine Go.wpList_lookup_own_ok_int _ rfl _ _ 137 rfl 9 3 .i64 skey Tryz.underlying137 Tryz.underlying3 (zeroE _) mb m.syms.length m.D rfl HQ.out _ _ rfl hkey ?_; intro c hat hwc; obtain rfl : c = (0 : Int) := lit_int ((HO.out _).symm.trans hat)))
        go_ret2
        exact ⟨rfl, .of_below H.out hb⟩
      · simp only [if_neg hfl]
        rw [decide_eq_false hfl] at hfull
        have CF := Lib.hid hfull
        have CA := Lib.hid (fun W (hW : Below w.heap.size w W) => addI_any (h.below hW) s hs (by have := h.ok.len; omega) hf)
        clear h hm hmap hf hfull hfl
        go_enter Tryz.func58, Tryz.ntmps58
        go_wp2_with (first
          | (go_at_call 85; ((with_reducible refine cV.mono ?_); rintro e w' ⟨rfl, rfl⟩))
          | (go_at_call 94; ((with_reducible refine cK.mono ?_); rintro e W ⟨rfl, hb⟩; obtain ⟨q1, q2⟩ := HX.out W hb; have HQ := Lib.hid q2; clear q2))
          | (go_at_call 95; ((with_reducible refine (CF.out _ hb).mono ?_); rintro e w' ⟨rfl, rfl⟩))
          | (at_lookup; refine Go.wpList_lookup_own_ok_int _ rfl _ _ 137 rfl 9 3 .i64 skey Tryz.underlying137 Tryz.underlying3 (zeroE _) mb m.syms.length m.D rfl HQ.out _ _ rfl hkey ?_; intro c hat hwc; obtain rfl : c = (0 : Int) := lit_int ((HO.out _).symm.trans hat)))
        have HB := Lib.hid hb
        refine (CA.out _ hb).mono ?_
        rintro e W3 ⟨rfl, hw⟩
        have HW := Lib.hid (WentT.after HB.out hw)
        clear hw CA CF HQ hb
        go_wp2
        go_ret2
        exact ⟨rfl, HW.out⟩
end Go.Proofs.YtbbopdkbokbafaaGreatDoor

