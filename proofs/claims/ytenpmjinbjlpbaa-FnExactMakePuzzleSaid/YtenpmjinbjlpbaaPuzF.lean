/- Rods held against clues on the model's side: pzFits, kind by kind. -/
import Derived.Test.YtenpmjinbjlpbaaPuzE
namespace Go.Proofs.Ytenpmjinbjlpbaa
open Go.RowKit

/-- whether a rod fits a clue -/
def fitB (L : Int) (l : List (Int × Int)) (k a b : Int) : Bool :=
  if k = 0 then (l.getD a.toNat (0, 0)).2 == 2 * b - 1
  else if k = 1 then (nL L l : Int) == a
  else if k = 2 then (mAll l).1 == a
  else if k = 3 then maxOf (fallsOf L l) == a
  else if k = 4 then (fallsOf L l).getD a.toNat 0 == b
  else (onN (fallsOf L l) a : Int) == b

end Go.Proofs.Ytenpmjinbjlpbaa
