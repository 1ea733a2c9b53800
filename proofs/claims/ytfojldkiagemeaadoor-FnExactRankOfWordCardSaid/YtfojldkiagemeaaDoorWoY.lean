/- Words: CountWords and WordsBefore, both sides. -/
import Derived.Test.YtfojldkiagemeaaDoorWoX
namespace Go.Proofs.YtfojldkiagemeaaDoor
open Go.RowKit

/-- numbers of both signs in their bounds -/
def twoB (a b m : Int) : Bool := (decide (0 ≤ a) && decide (a ≤ m)) && (decide (0 ≤ b) && decide (b ≤ m))
theorem twoB_iff (a b m : Int) : twoB a b m = true ↔ 0 ≤ a ∧ a ≤ m ∧ 0 ≤ b ∧ b ≤ m := by unfold twoB; simp; omega



end Go.Proofs.YtfojldkiagemeaaDoor
