/- The contracts of the small functions of package heap: valid, kindOf, the sizes, Many, Room, Limit. -/
import Derived.Test.YtleppjdmcjocmaaDoorHpAt
import Derived.Test.YtleppjdmcjocmaaDoorHpAs
import Derived.WalkSpells
import Derived.WalkLawsBesides
import Derived.RegionTactic
import Derived.Deep.QuietTactic
import Derived.BigQuiet
import Derived.Outline
import Derived.IntWalk
namespace Go.Proofs.YtleppjdmcjocmaaDoor
open Go.RowKit Go.Lib
/-- A call that only reads, met in a region that draws behind another draw. -/
theorem q_more {P : Program} {f : FuncId} {args : Array Value} {w : World} {a n : Nat} {v : Value}
    (h : Calls P f args (w.drewN (a + n)) fun e w' => e = .returned v ∧ ∃ m, w' = (w.drewN (a + n)).drewN m) : Calls P f args (w.drewN (a + n)) fun e w'' => e = .returned v ∧ ∃ k, w'' = w.drewN (a + k) :=
  h.mono fun _ _ ⟨he, m, hm⟩ => ⟨he, n + m, by rw [hm, World.drewN_drewN, Nat.add_assoc]⟩
theorem q_more_same {P : Program} {f : FuncId} {args : Array Value} {w : World} {a n : Nat} {v : Value}
    (h : Calls P f args (w.drewN (a + n)) fun e w' => e = .returned v ∧ w' = w.drewN (a + n)) : Calls P f args (w.drewN (a + n)) fun e w'' => e = .returned v ∧ ∃ k, w'' = w.drewN (a + k) :=
  h.mono fun _ _ ⟨he, hm⟩ => ⟨he, n, hm⟩
abbrev hptr (hb : Nat) : Value := .pointer (some ⟨hb, 0, none⟩)
theorem valid_any (hb : Nat) (lim : Int) (w : World) (hl : 1 ≤ lim) (hc : w.cell? ⟨hb, 0, none⟩ = some (.int .i64 lim)) :
    Calls Tryd.prog 36 #[hptr hb] w fun e w' => e = .returned (.bool true) ∧ w' = w := by
  have h0 : 0 < lim := by omega
  go_enter Tryd.func36, Tryd.ntmps36
  go_wp2
  go_ret
  exact ⟨rfl, rfl⟩
theorem valid_nil (w : World) : Calls Tryd.prog 36 #[.pointer none] w fun e w' => e = .returned (.bool false) ∧ w' = w := by
  go_enter Tryd.func36, Tryd.ntmps36
  go_wp2
  go_ret
  exact ⟨rfl, rfl⟩
theorem kind_pair (b : Nat) (w : World) : Calls Tryd.prog 50 #[.iface 69 (.pointer (some ⟨b, 0, none⟩))] w fun e w' => e = .returned (.int .i64 2) ∧ w' = w := by
  have h_pair := as_pair_pair
  go_enter Tryd.func50, Tryd.ntmps50
  go_wp2
  go_ret
  exact ⟨rfl, rfl⟩
theorem kind_text (b : Nat) (w : World) : Calls Tryd.prog 50 #[.iface 74 (.pointer (some ⟨b, 0, none⟩))] w fun e w' => e = .returned (.int .i64 3) ∧ w' = w := by
  have h_pair := as_text_pair
  have h_text := as_text_text
  go_enter Tryd.func50, Tryd.ntmps50
  go_wp2
  go_ret
  exact ⟨rfl, rfl⟩
theorem kind_vec (b : Nat) (w : World) : Calls Tryd.prog 50 #[.iface 82 (.pointer (some ⟨b, 0, none⟩))] w fun e w' => e = .returned (.int .i64 4) ∧ w' = w := by
  have h_pair := as_vector_pair
  have h_text := as_vector_text
  have h_vector := as_vector_vector
  go_enter Tryd.func50, Tryd.ntmps50
  go_wp2
  go_ret
  exact ⟨rfl, rfl⟩
theorem kind_code (b : Nat) (w : World) : Calls Tryd.prog 50 #[.iface 94 (.pointer (some ⟨b, 0, none⟩))] w fun e w' => e = .returned (.int .i64 6) ∧ w' = w := by
  have h_pair := as_code_pair
  have h_text := as_code_text
  have h_vector := as_code_vector
  go_enter Tryd.func50, Tryd.ntmps50
  go_wp2
  go_ret
  exact ⟨rfl, rfl⟩
theorem many_any (hb : Nat) (lim st : Int) (ao af : Option Addr) (n k co cf : Nat) (T : TypeId) (w : World) (hl : 1 ≤ lim)
    (hh : w.heap[hb]? = some (.cells #[.int .i64 lim, .slice ao n co, .slice af k cf, .int .i64 st] T (0, 0))) (hn : n ≤ 65536) (hk : k ≤ n) :
    Calls Tryd.prog 19 #[hptr hb] w fun e w' => e = .returned (.int .i64 ((n : Int) - k)) ∧ ∃ d, w' = w.drewN d := by
  have c0 : w.cell? ⟨hb, 0, none⟩ = some (.int .i64 lim) := cell_at hh
  have c1 : w.cell? ⟨hb, 1, none⟩ = some (.slice ao n co) := cell_at hh
  have c2 : w.cell? ⟨hb, 2, none⟩ = some (.slice af k cf) := cell_at hh
  clear hh
  have cV := valid_any hb lim w hl c0
  go_enter Tryd.func19, Tryd.ntmps19
  go_wp2_with (go_at_call 36; ((with_reducible refine cV.mono ?_); rintro e w' ⟨rfl, rfl⟩))
  go_quiet (fail)
  go_wp2
  go_ret
  exact ⟨rfl, _, rfl⟩
theorem room_any (hb : Nat) (lim st : Int) (vo vf : Value) (T : TypeId) (w : World) (hl : 1 ≤ lim)
    (hh : w.heap[hb]? = some (.cells #[.int .i64 lim, vo, vf, .int .i64 st] T (0, 0))) (h0 : 0 ≤ st) (h1 : st ≤ 1048576) :
    Calls Tryd.prog 20 #[hptr hb] w fun e w' => e = .returned (.int .i64 (1048576 - st)) ∧ w' = w := by
  have c0 : w.cell? ⟨hb, 0, none⟩ = some (.int .i64 lim) := cell_at hh
  have c3 : w.cell? ⟨hb, 3, none⟩ = some (.int .i64 st) := cell_at hh
  clear hh
  have cV := valid_any hb lim w hl c0
  go_enter Tryd.func20, Tryd.ntmps20
  go_wp2_with (go_at_call 36; ((with_reducible refine cV.mono ?_); rintro e w' ⟨rfl, rfl⟩))
  go_ret
  exact ⟨rfl, rfl⟩
theorem limit_any (hb : Nat) (lim : Int) (w : World) (hl : 1 ≤ lim) (c0 : w.cell? ⟨hb, 0, none⟩ = some (.int .i64 lim)) :
    Calls Tryd.prog 22 #[hptr hb] w fun e w' => e = .returned (.int .i64 lim) ∧ w' = w := by
  have cV := valid_any hb lim w hl c0
  go_enter Tryd.func22, Tryd.ntmps22
  go_wp2_with (go_at_call 36; ((with_reducible refine cV.mono ?_); rintro e w' ⟨rfl, rfl⟩))
  go_ret
  exact ⟨rfl, rfl⟩
theorem size_pair (b : Nat) (w : World) : Calls Tryd.prog 85 #[.pointer (some ⟨b, 0, none⟩)] w fun e w' => e = .returned (.int .i64 0) ∧ w' = w := by
  go_enter Tryd.func85, Tryd.ntmps85
  go_wp2
  go_ret
  exact ⟨rfl, rfl⟩
theorem size_text (b : Nat) (n : Int) (w : World) (h : w.cell? ⟨b, 1, none⟩ = some (.int .i64 n)) : Calls Tryd.prog 87 #[.pointer (some ⟨b, 0, none⟩)] w fun e w' => e = .returned (.int .i64 n) ∧ w' = w := by
  go_enter Tryd.func87, Tryd.ntmps87
  go_wp2
  go_ret
  exact ⟨rfl, rfl⟩
theorem size_vec (b n c : Nat) (a : Option Addr) (w : World) (h : w.cell? ⟨b, 0, none⟩ = some (.slice a n c)) : Calls Tryd.prog 89 #[.pointer (some ⟨b, 0, none⟩)] w fun e w' => e = .returned (.int .i64 n) ∧ w' = w := by
  go_enter Tryd.func89, Tryd.ntmps89
  go_wp2
  go_ret
  exact ⟨rfl, rfl⟩
theorem size_code (b n c n' c' : Nat) (a a' : Option Addr) (w : World) (h : w.cell? ⟨b, 3, none⟩ = some (.slice a n c)) (h' : w.cell? ⟨b, 4, none⟩ = some (.slice a' n' c')) (h1 : n ≤ 1048576) (h2 : n' ≤ 1048576) :
    Calls Tryd.prog 91 #[.pointer (some ⟨b, 0, none⟩)] w fun e w' => e = .returned (.int .i64 ((n : Int) + n')) ∧ ∃ d, w' = w.drewN d := by
  go_enter Tryd.func91, Tryd.ntmps91
  go_wp2
  go_quiet (fail)
  go_wp2
  go_ret
  exact ⟨rfl, _, rfl⟩
end Go.Proofs.YtleppjdmcjocmaaDoor
