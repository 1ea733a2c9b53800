/- The contracts of the laws' marks on circles. -/
import Derived.Test.YtpchgmcegholoaaDoorMark
namespace Go.Proofs.YtpchgmcegholoaaDoor
open Go.RowKit

set_option maxHeartbeats 400000 in
theorem markCircle_any (L : Int) (A : Option Addr) (c B : Nat) (l : List (Int × Int)) (k0 : Int) (w : World) (hk0 : 0 ≤ k0) (hk1 : k0 ≤ 1048576) (hn : (l.length : Int) ≤ 1048576) (h : AntsOwn w B 52 (.slice A l.length c) l) :
    Calls Tryd.prog 13 #[.agg #[.int .i64 L, .slice A l.length c], .int .i64 k0] w fun e w' => e = .returned (.int .i64 (k0 + 2 * l.length)) ∧ AntsOwn w' B 52 (.slice A l.length c) (antMarks k0 l.length) ∧ w.grownBy w' (Value.slice A l.length c).ownBlock := by
  have H := Lib.hid (AntsOwn.below h ((Below.refl _ _).alloc (Nat.le_refl _) (Obj.cells #[Value.int IntKind.i64 L, Value.slice A l.length c] 30)))
  clear h
  go_enter Tryd.func13, Tryd.ntmps13
  go_wp2_with fail
  refine (markAntS_any A c B l k0 _ hk0 hk1 hn H.out).mono ?_
  rintro e w1 ⟨rfl, ho, hg⟩
  have HO := Lib.hid ho
  have HG := Lib.hid hg
  clear ho hg
  go_wp2
  go_ret
  exact ⟨ret_int rfl, HO.out, grown_trans (World.grownBy_alloc _ _ _) HG.out⟩


set_option maxHeartbeats 400000 in
theorem heldCircle_any (L : Int) (A : Option Addr) (c n : Nat) (k0 : Int) (w : World) (hk0 : 0 ≤ k0) (hk1 : k0 ≤ 1048576) (hn : (n : Int) ≤ 1048576) (h : AntsAt w A (antMarks k0 n)) :
    Calls Tryd.prog 14 #[.agg #[.int .i64 L, .slice A n c], .int .i64 k0] w fun e w' => e = .returned (.int .i64 (k0 + 2 * n)) ∧ Below w.heap.size w w' := by
  have H := Lib.hid (h.alloc (Obj.cells #[Value.int IntKind.i64 L, Value.slice A n c] 30))
  clear h
  have hz : ¬ (k0 + 2 * (n : Int)) < 0 := by omega
  go_enter Tryd.func14, Tryd.ntmps14
  go_wp2_with fail
  refine (heldAntS_any A c n k0 _ hk0 hk1 hn H.out).mono ?_
  rintro e w1 ⟨rfl, rfl⟩
  go_wp2
  go_ret
  exact ⟨ret_int rfl, (Below.refl _ _).alloc (Nat.le_refl _) _⟩


end Go.Proofs.YtpchgmcegholoaaDoor
