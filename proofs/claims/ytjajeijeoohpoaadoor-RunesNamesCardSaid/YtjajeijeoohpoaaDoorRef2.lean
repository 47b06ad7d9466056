/- The contracts of the reference's Up, Down, Word and Width. Conditions: none. -/
import Derived.Test.YtjajeijeoohpoaaDoorRef
import Derived.Great.Walk
import Derived.Great.BuildSlice
namespace Go.Proofs.YtjajeijeoohpoaaDoor
open Go.RowKit Go.Lib
def wordR : List (Int × Int) := [(48, 57), (65, 90), (97, 122), (170, 170), (181, 181), (186, 186), (192, 214), (216, 246), (248, 591), (768, 893), (895, 902), (904, 1023), (1024, 1327), (1488, 1514), (12353, 12543), (13312, 40959), (44032, 55203), (131072, 262141)]
def noneR : List (Int × Int) := [(768, 879), (1155, 1161), (1425, 1469), (8203, 8207), (8400, 8447), (65024, 65039), (65056, 65071)]
def twoR : List (Int × Int) := [(0, 8), (10, 31), (127, 127), (4352, 4447), (11904, 12350), (12353, 42191), (44032, 55203), (63744, 64255), (65072, 65135), (65280, 65376), (65504, 65510), (127744, 128591), (129280, 129535), (131072, 262141)]
theorem below_drewN' {B : Nat} {a w : World} : ∀ q, Below B a w → Below B a (w.drewN q)
  | 0, h => h
  | q + 1, h => (below_drewN' q h).drew
/-- 'in' over a list of ranges that has just been laid. -/
theorem in_new (ps : List (Int × Int)) (c : Int) (n : Nat) (w1 : World) (b : Nat) (hn : n = 2 * ps.length) (hsmall : n < 1000) (hcell : ∀ i, w1.cell? ⟨b, i, none⟩ = (pairCells ps)[i]?) :
    Calls Tryd.prog 47 #[.int .i64 c, .slice (some ⟨b, 0, none⟩) n n] w1 fun e w' => e = .returned (.bool (inL ps c)) ∧ ∃ q, w' = w1.drewN q := by
  refine in_any ps c b n n w1 hn hsmall (fun i x hx => ?_)
  rw [hcell, hcell]
  exact pairCells_at ps i x hx

set_option maxHeartbeats 1000000 in
theorem upR_any (c : Int) (w : World) : Calls Tryd.prog 33 #[.int .i64 c] w fun e w' => e = .returned (.int .i64 (smallZ c).1) ∧ w = w' := by
  have cS := small_any c w
  generalize (smallZ c).1 = m at cS ⊢
  generalize (smallZ c).2 = f at cS
  go_enter Tryd.func33, Tryd.ntmps33
  go_wp2_with (go_at_call 48; refine cS.mono ?_; rintro e w' ⟨rfl, rfl⟩)
  go_ret
  exact ⟨rfl, rfl⟩
set_option maxHeartbeats 1000000 in
theorem wordR_any (c : Int) (w : World) : Calls Tryd.prog 36 #[.int .i64 c] w fun e w' => e = .returned (.bool (inL wordR c)) ∧ Below w.heap.size w w' := by
  have cI := in_new wordR c 36 (w.alloc (.cells (pairCells wordR) 3)) w.heap.size rfl (by omega) (fun i => World.cell?_alloc_at _ _ _ _ rfl)
  generalize inL wordR c = f at cI ⊢
  go_enter Tryd.func36, Tryd.ntmps36
  go_wp2_with (first | (refine Great.wpList_buildSliceTo rfl 27 3 36 _ rfl _ rfl _ rfl Tryd.underlying27 (pairCells wordR) (by kernel_rfl) ?_) | (go_at_call 47; refine cI.mono ?_; rintro e w' ⟨rfl, q, rfl⟩))
  go_ret
  exact ⟨rfl, below_drewN' _ ((Below.refl _ _).alloc (Nat.le_refl _) _)⟩
end Go.Proofs.YtjajeijeoohpoaaDoor
