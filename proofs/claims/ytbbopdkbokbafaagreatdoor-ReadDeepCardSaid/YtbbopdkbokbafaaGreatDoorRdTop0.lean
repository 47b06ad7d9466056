/- The contracts of begin and readers. -/
import Derived.Test.YtbbopdkbokbafaaGreatDoorRdForm0
import Derived.Test.YtbbopdkbokbafaaGreatDoorRnList
namespace Go.Proofs.YtbbopdkbokbafaaGreatDoor
open Go.RowKit Go.Lib
theorem upd_new (w : World) (es : Array MapEntry) (c : Nat) (k : Int) (v : Value) (h : Instr.findNow (.int .i64) (.int .i64 k) es.toList 0 = some none) :
    (Instr.mapUpdate 89 (.map (some w.heap.size)) (.int .i64 k) v).run Tryz.prog (w.alloc (.map es c)) = .ok () (w.alloc (.map (es.push { key := .int .i64 k, val := v, born := c }) (c + 1))) := by
  have hb : (w.alloc (.map es c)).heap[w.heap.size]? = some (.map es c) := (MapKept.heap_alloc w _).1
  have hck : (Instr.checkKey false 10000 3 (.int .i64 k)).run Tryz.prog (w.alloc (.map es c)) = .ok () (w.alloc (.map es c)) :=
    MapKept.run_checkKey Tryz.underlying3 (by simp [MapKept.IsKey]) _ 9999
  have hfk : (Instr.findKey 3 (.int .i64 k) es.toList).run Tryz.prog (w.alloc (.map es c)) = .ok none (w.alloc (.map es c)) := by
    simp [Instr.findKey, run_underlying Tryz.underlying3, h, Result.andThen]
  simp [Instr.mapUpdate, run_underlying Tryz.underlying89, MapKept.run_getObj_map hb, hck, hfk, MapKept.run_setObj_map _ hb, Result.andThen]
  have key : ∀ (h : Array Obj) (o o' : Obj), (h.push o).setIfInBounds h.size o' = h.push o' := by
    intro h o o'
    apply Array.ext
    · simp
    · intro i h1 h2
      rw [Array.getElem_setIfInBounds (by simpa using h1), Array.getElem_push, Array.getElem_push]
      by_cases e : h.size = i
      · subst e; simp
      · rw [if_neg e]
        have : i < h.size := by simp at h2; omega
        rw [dif_pos this, dif_pos this]
  simp only [World.alloc, key]
set_option maxRecDepth 10000 in
theorem readers_any (w : World) : Calls Tryz.prog 111 #[] w fun e w' => e = .returned (.map (some w.heap.size)) ∧ w' = w.alloc (.map readersEs 11) := by
  have hmm := @run_makeMap Tryz.prog
  obtain ⟨es, he⟩ : ∃ es : Nat → Array MapEntry, ∀ i, i < 11 → es i = readersEs.extract 0 i := ⟨fun i => readersEs.extract 0 i, fun _ _ => rfl⟩
  have u0 : (Instr.mapUpdate 89 (.map (some w.heap.size)) (.int .i64 40) (.func (.func 157) #[] #[])).run Tryz.prog (w.alloc (.map #[] 0)) = .ok () (w.alloc (.map (es 1) 1)) := by
    rw [he 1 (by decide)]; exact upd_new w _ 0 _ _ (by rfl)
  have u1 : (Instr.mapUpdate 89 (.map (some w.heap.size)) (.int .i64 91) (.func (.func 158) #[] #[])).run Tryz.prog (w.alloc (.map (es 1) 1)) = .ok () (w.alloc (.map (es 2) 2)) := by
    rw [he 1 (by decide)]; rw [he 2 (by decide)]; exact upd_new w _ 1 _ _ (by rfl)
  have u2 : (Instr.mapUpdate 89 (.map (some w.heap.size)) (.int .i64 39) (.func (.func 159) #[] #[])).run Tryz.prog (w.alloc (.map (es 2) 2)) = .ok () (w.alloc (.map (es 3) 3)) := by
    rw [he 2 (by decide)]; rw [he 3 (by decide)]; exact upd_new w _ 2 _ _ (by rfl)
  have u3 : (Instr.mapUpdate 89 (.map (some w.heap.size)) (.int .i64 96) (.func (.func 160) #[] #[])).run Tryz.prog (w.alloc (.map (es 3) 3)) = .ok () (w.alloc (.map (es 4) 4)) := by
    rw [he 3 (by decide)]; rw [he 4 (by decide)]; exact upd_new w _ 3 _ _ (by rfl)
  have u4 : (Instr.mapUpdate 89 (.map (some w.heap.size)) (.int .i64 44) (.func (.func 161) #[] #[])).run Tryz.prog (w.alloc (.map (es 4) 4)) = .ok () (w.alloc (.map (es 5) 5)) := by
    rw [he 4 (by decide)]; rw [he 5 (by decide)]; exact upd_new w _ 4 _ _ (by rfl)
  have u5 : (Instr.mapUpdate 89 (.map (some w.heap.size)) (.int .i64 35) (.func (.func 162) #[] #[])).run Tryz.prog (w.alloc (.map (es 5) 5)) = .ok () (w.alloc (.map (es 6) 6)) := by
    rw [he 5 (by decide)]; rw [he 6 (by decide)]; exact upd_new w _ 5 _ _ (by rfl)
  have u6 : (Instr.mapUpdate 89 (.map (some w.heap.size)) (.int .i64 34) (.func (.func 163) #[] #[])).run Tryz.prog (w.alloc (.map (es 6) 6)) = .ok () (w.alloc (.map (es 7) 7)) := by
    rw [he 6 (by decide)]; rw [he 7 (by decide)]; exact upd_new w _ 6 _ _ (by rfl)
  have u7 : (Instr.mapUpdate 89 (.map (some w.heap.size)) (.int .i64 63) (.func (.func 164) #[] #[])).run Tryz.prog (w.alloc (.map (es 7) 7)) = .ok () (w.alloc (.map (es 8) 8)) := by
    rw [he 7 (by decide)]; rw [he 8 (by decide)]; exact upd_new w _ 7 _ _ (by rfl)
  have u8 : (Instr.mapUpdate 89 (.map (some w.heap.size)) (.int .i64 41) (.func (.func 165) #[] #[])).run Tryz.prog (w.alloc (.map (es 8) 8)) = .ok () (w.alloc (.map (es 9) 9)) := by
    rw [he 8 (by decide)]; rw [he 9 (by decide)]; exact upd_new w _ 8 _ _ (by rfl)
  have u9 : (Instr.mapUpdate 89 (.map (some w.heap.size)) (.int .i64 93) (.func (.func 165) #[] #[])).run Tryz.prog (w.alloc (.map (es 9) 9)) = .ok () (w.alloc (.map (es 10) 10)) := by
    rw [he 9 (by decide)]; rw [he 10 (by decide)]; exact upd_new w _ 9 _ _ (by rfl)
  have u10 : (Instr.mapUpdate 89 (.map (some w.heap.size)) (.int .i64 (-1)) (.func (.func 165) #[] #[])).run Tryz.prog (w.alloc (.map (es 10) 10)) = .ok () (w.alloc (.map readersEs 11)) := by
    rw [he 10 (by decide)]; exact upd_new w _ 10 _ _ (by rfl)
  clear he
  go_enter Tryz.func111, Tryz.ntmps111
  go_wp2
  go_ret
  exact ⟨rfl, rfl⟩
end Go.Proofs.YtbbopdkbokbafaaGreatDoor
