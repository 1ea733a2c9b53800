/- Words: a bound on the words before. -/
import Derived.Test.YtgdgaldgieiokaaGreatDoorWoZ
import Derived.Test.YtgdgaldgieiokaaGreatDoorMarkS
namespace Go.Proofs.YtgdgaldgieiokaaGreatDoor
open Go.RowKit

theorem bfW_bd (l : List UInt8) : (((wordsL (lstW (bfOk l) (bfW l))).length : Nat) : Int) ≤ 1048576 := by
  rw [wordsL_len]
  cases hb : bfOk l with
  | false => show ((0 : Nat) : Int) ≤ 1048576; omega
  | true =>
    have h : okW l = true := by unfold bfOk at hb; rw [Bool.and_eq_true] at hb; exact hb.1
    have := bf_len l h
    show (((bfW l).length : Nat) : Int) ≤ 1048576
    omega
end Go.Proofs.YtgdgaldgieiokaaGreatDoor
