/- Rods held against clues on the model's side: pzFits, any clue. -/
import Derived.Test.YtenpmjinbjlpbaaPuzF
namespace Go.Proofs.Ytenpmjinbjlpbaa
open Go.RowKit

/-- which ways fit clues: each clue of them -/
def fitAll (L : Int) (l : List (Int × Int)) (cs : List (Int × Int × Int)) : Bool := cs.all fun c => fitB L l c.1 c.2.1 c.2.2
theorem fitAll_snoc (L : Int) (l : List (Int × Int)) (cs : List (Int × Int × Int)) (k : Nat) (h : k < cs.length) :
    fitAll L l (cs.take (k + 1)) = (fitAll L l (cs.take k) && fitB L l cs[k].1 cs[k].2.1 cs[k].2.2) := by
  unfold fitAll
  rw [List.take_succ_eq_append_getElem h, List.all_append]
  simp
end Go.Proofs.Ytenpmjinbjlpbaa
