/- The contracts of the laws' own helpers: size, copy, comparison, marks. -/
import Derived.Test.YtiodlclaempihaaGreatProg
import Derived.Test.YtiodlclaempihaaGreatBase
namespace Go.Proofs.YtiodlclaempihaaGreat
open Go.RowKit

theorem antInfo : (Tryz.prog.info? 90).map (fun i => (i.zero, i.size, i.bytes)) = some (some (.agg #[.int .i64 0, .int .i64 0]), 2, 16) := by kernel_rfl

theorem take_rep (l : List (Int × Int)) (k : Nat) (hk : k < l.length) : (l.take k ++ List.replicate (l.length - k) (0, 0)).set k (l.getD k (0, 0)) = l.take (k + 1) ++ List.replicate (l.length - (k + 1)) (0, 0) := by
  rw [List.set_append_right _ _ (by rw [List.length_take]; omega), List.length_take, Nat.min_eq_left (by omega), Nat.sub_self,
    show l.length - k = (l.length - (k + 1)) + 1 by omega, List.replicate_succ, List.set_cons_zero, List.take_succ_eq_append_getElem hk, List.append_assoc]
  simp [hk]

def eqAt (l m : List (Int × Int)) (k : Nat) : Bool := ((l.getD k (0, 0)).1 == (m.getD k (0, 0)).1 && (l.getD k (0, 0)).2 == (m.getD k (0, 0)).2)
end Go.Proofs.YtiodlclaempihaaGreat
