/- The contracts of spec.roGood and spec.IsRod: the same plain function as impl.IsRod's. -/
import Derived.Test.YtiodlclaempihaaGreatIsRod
namespace Go.Proofs.YtiodlclaempihaaGreat
open Go.RowKit

theorem in_any (n lo hi : Int) (w : World) :
    Calls Tryz.prog 78 #[.int .i64 n, .int .i64 lo, .int .i64 hi] w fun e w' => e = .returned (.bool (decide (lo ≤ n) && decide (n ≤ hi))) ∧ w = w' := by
  go_enter Tryz.func78, Tryz.ntmps78
  go_wp2
  all_goals go_ret
  all_goals (refine ⟨ret_bool ?_, rfl⟩)
  all_goals simp [*]
  all_goals omega
theorem in_at (n lo hi : Int) (r : Bool) (hr : (decide (lo ≤ n) && decide (n ≤ hi)) = r) (w : World) :
    Calls Tryz.prog 78 #[.int .i64 n, .int .i64 lo, .int .i64 hi] w fun e w' => e = .returned (.bool r) ∧ w = w' := by
  subst hr; exact in_any n lo hi w

/-- one ant, and the one before it, as the loop tests them -/
def antB (L x1 x2 : Int) : Bool := (decide (0 ≤ x1) && decide (x1 ≤ L)) && (x1 % 2 == 0) && !((x2 != 1) && (x2 != -1))

end Go.Proofs.YtiodlclaempihaaGreat
