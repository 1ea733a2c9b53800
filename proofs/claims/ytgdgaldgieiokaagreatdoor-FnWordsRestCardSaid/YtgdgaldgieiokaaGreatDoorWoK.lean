/- Words: bounds on the lists that are handed back. -/
import Derived.Test.YtgdgaldgieiokaaGreatDoorWoJ
namespace Go.Proofs.YtgdgaldgieiokaaGreatDoor
open Go.RowKit

theorem lst_bd (l : List UInt8) (m : List Nat) (h : okW l = true → m.length ≤ 1048576) : (((lstR (okW l) (natI m)).length : Nat) : Int) ≤ 1048576 := by
  rw [lstR_nat_len]
  cases hok : okW l with
  | false => show ((0 : Nat) : Int) ≤ 1048576; omega
  | true => have := h hok; show ((m.length : Nat) : Int) ≤ 1048576; omega
theorem fac_bd (l : List UInt8) (hs : l.length ≤ 1048576) : (((lstR (okW l) (natI (facP l l.length))).length : Nat) : Int) ≤ 1048576 := lst_bd l _ fun _ => Nat.le_trans (facP_len_le l l.length) hs
theorem num_bd (l : List UInt8) (hs : l.length ≤ 1048576) : (((lstR (okW l) (natI (num 0 l))).length : Nat) : Int) ≤ 1048576 := lst_bd l _ fun _ => Nat.le_trans (num_len_le l 0) hs
theorem met_bd (l : List UInt8) : (((lstR (okW l) (natI (metL l))).length : Nat) : Int) ≤ 1048576 := lst_bd l _ fun h => Nat.le_trans (metL_len l (okW_len h)) (by decide)
end Go.Proofs.YtgdgaldgieiokaaGreatDoor
