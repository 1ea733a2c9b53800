/- The contracts of the laws' own helpers for circles: size, copy, comparison. -/
import Derived.Test.YtpchgmcegholoaaDoorHelp
namespace Go.Proofs.YtpchgmcegholoaaDoor
open Go.RowKit

set_option maxHeartbeats 400000 in
theorem eqCircle_true (L : Int) (A B : Option Addr) (c d : Nat) (l : List (Int × Int)) (w : World) (hn : (l.length : Int) ≤ 1048576) (hA : AntsAt w A l) (hB : AntsAt w B l) :
    Calls Tryd.prog 12 #[.agg #[.int .i64 L, .slice A l.length c], .agg #[.int .i64 L, .slice B l.length d]] w fun e w' => e = .returned (.bool true) ∧ Below w.heap.size w w' := by
  have HA := Lib.hid hA
  have HB := Lib.hid hB
  clear hA hB
  go_enter Tryd.func12, Tryd.ntmps12
  go_wp2_with fail
  refine (eqAntS_true A B c d l _ hn ?_ ?_).mono ?_
  · exact (HA.out.alloc _).alloc _
  · exact (HB.out.alloc _).alloc _
  rintro e w1 ⟨rfl, hb⟩
  go_wp2
  go_ret
  exact ⟨ret_bool rfl, (((Below.refl _ _).alloc (Nat.le_refl _) _).alloc (by simp) _).trans (hb.mono (by simp; omega))⟩

end Go.Proofs.YtpchgmcegholoaaDoor
