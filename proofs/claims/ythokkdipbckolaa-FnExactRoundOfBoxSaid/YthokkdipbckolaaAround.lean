/- Around a circle: places and whole rounds. -/
import Derived.Test.YthokkdipbckolaaProg
import Derived.Test.YthokkdipbckolaaBase
namespace Go.Proofs.Ythokkdipbckolaa
open Go.RowKit

theorem tmod_around (x L : Int) (hL : 0 < L) : (x.tmod L + L).tmod L = x % L := by
  have h1 : 0 ≤ x.tmod L + L := by
    have := Int.lt_tmod_of_pos x hL
    omega
  rw [Int.tmod_eq_emod_of_nonneg h1, Int.add_emod_right, Int.tmod_def, Int.sub_mul_emod_self_left]
theorem tdiv_rounds (x L : Int) (hL : 0 < L) : (x - x % L).tdiv L = x / L := by
  have h : x - x % L = L * (x / L) := by have := Int.mul_ediv_add_emod x L; omega
  rw [h, Int.mul_tdiv_cancel_left _ (by omega)]
theorem ediv_bound (x L m : Int) (hL : 2 ≤ L) (h0 : -m ≤ x) (h1 : x ≤ m) (hm : 0 ≤ m) : -m ≤ x / L ∧ x / L ≤ m := by
  constructor
  · refine Int.le_ediv_of_mul_le (by omega) ?_
    have : m * 2 ≤ m * L := Int.mul_le_mul_of_nonneg_left hL hm
    have e : -m * L = -(m * L) := Int.neg_mul _ _
    omega
  · refine Int.ediv_le_of_le_mul (by omega) ?_
    have : m * 1 ≤ m * L := Int.mul_le_mul_of_nonneg_left (by omega) hm
    omega

theorem around_any (x L : Int) (w : World) (_hx0 : -1000000 ≤ x) (_hx1 : x ≤ 1000000) (hL : 0 < L) (hL1 : L ≤ 1000000) :
    Calls Try.prog 53 #[.int .i64 x, .int .i64 L] w fun e w' => e = .returned (.int .i64 (x % L)) ∧ w = w' := by
  have h0 : ¬ L = 0 := by omega
  have t0 := Int.lt_tmod_of_pos x hL
  have t1 := Int.tmod_lt_of_pos x hL
  have E := Lib.hid (tmod_around x L hL)
  have hw1 : IntKind.i64.wrap (x.tmod L) = x.tmod L := IntWalk.i64_in _ (by omega)
  have hw2 : IntKind.i64.wrap (x.tmod L + L) = x.tmod L + L := IntWalk.i64_in _ (by omega)
  have hw3 : IntKind.i64.wrap ((x.tmod L + L).tmod L) = (x.tmod L + L).tmod L := by
    rw [E.out]
    have := Int.emod_nonneg x h0
    have := Int.emod_lt_of_pos x hL
    exact IntWalk.i64_in _ (by omega)
  go_enter Try.func53, Try.ntmps53
  go_wp2
  go_ret
  exact ⟨ret_int (by first | exact E.out | (have h := E.out; rw [Int.tmod_eq_emod_of_nonneg (show 0 ≤ x.tmod L + L by omega)] at h; exact h)), rfl⟩

end Go.Proofs.Ythokkdipbckolaa
