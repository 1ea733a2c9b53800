/- Around a circle: places and whole rounds. -/
import Derived.Test.YtdoikeglaolipaaProg
import Derived.Test.YtdoikeglaolipaaBase
namespace Go.Proofs.Ytdoikeglaolipaa
open Go.RowKit

theorem tmod_around (x L : Int) (hL : 0 < L) : (x.tmod L + L).tmod L = x % L := by
  have h1 : 0 ≤ x.tmod L + L := by
    have := Int.lt_tmod_of_pos x hL
    omega
  rw [Int.tmod_eq_emod_of_nonneg h1, Int.add_emod_right, Int.tmod_def, Int.sub_mul_emod_self_left]
theorem tdiv_rounds (x L : Int) (hL : 0 < L) : (x - x % L).tdiv L = x / L := by
  have h : x - x % L = L * (x / L) := by have := Int.mul_ediv_add_emod x L; omega
  rw [h, Int.mul_tdiv_cancel_left _ (by omega)]
theorem ediv_bound (x L m : Int) (hL : 2 ≤ L) (h0 : -m ≤ x) (h1 : x ≤ m) (hm : 0 ≤ m) : -m ≤ x / L ∧ x / L ≤ m := by
  constructor
  · refine Int.le_ediv_of_mul_le (by omega) ?_
    have : m * 2 ≤ m * L := Int.mul_le_mul_of_nonneg_left hL hm
    have e : -m * L = -(m * L) := Int.neg_mul _ _
    omega
  · refine Int.ediv_le_of_le_mul (by omega) ?_
    have : m * 1 ≤ m * L := Int.mul_le_mul_of_nonneg_left (by omega) hm
    omega

theorem around_any (x L : Int) (w : World) (_hx0 : -1000000 ≤ x) (_hx1 : x ≤ 1000000) (hL : 0 < L) (hL1 : L ≤ 1000000) :
    Calls Try.prog 64 #[.int .i64 x, .int .i64 L] w fun e w' => e = .returned (.int .i64 (x % L)) ∧ w = w' := by
  have h0 : ¬ L = 0 := by omega
  have t0 := Int.lt_tmod_of_pos x hL
  have t1 := Int.tmod_lt_of_pos x hL
  have E := Lib.hid (tmod_around x L hL)
  have hw1 : IntKind.i64.wrap (x.tmod L) = x.tmod L := IntWalk.i64_in _ (by omega)
  have hw2 : IntKind.i64.wrap (x.tmod L + L) = x.tmod L + L := IntWalk.i64_in _ (by omega)
  have hw3 : IntKind.i64.wrap ((x.tmod L + L).tmod L) = (x.tmod L + L).tmod L := by
    rw [E.out]
    have := Int.emod_nonneg x h0
    have := Int.emod_lt_of_pos x hL
    exact IntWalk.i64_in _ (by omega)
  go_enter Try.func64, Try.ntmps64
  go_wp2
  go_ret
  exact ⟨ret_int (by first | exact E.out | (have h := E.out; rw [Int.tmod_eq_emod_of_nonneg (show 0 ≤ x.tmod L + L by omega)] at h; exact h)), rfl⟩

theorem roundsTo_any (x L : Int) (w : World) (hx0 : -1000000 ≤ x) (hx1 : x ≤ 1000000) (hL : 2 ≤ L) (hL1 : L ≤ 1000000) :
    Calls Try.prog 50 #[.int .i64 x, .int .i64 L] w fun e w' => e = .returned (.int .i64 (x / L)) ∧ w = w' := by
  have h0 : ¬ L = 0 := by omega
  have m0 := Int.emod_nonneg x h0
  have m1 := Int.emod_lt_of_pos x (show 0 < L by omega)
  have E := Lib.hid (tdiv_rounds x L (by omega))
  have hw1 : IntKind.i64.wrap (x - x % L) = x - x % L := IntWalk.i64_in _ (by omega)
  have hw2 : IntKind.i64.wrap ((x - x % L).tdiv L) = (x - x % L).tdiv L := by
    rw [E.out]
    have := ediv_bound x L 1000000 hL (by omega) (by omega) (by omega)
    exact IntWalk.i64_in _ (by omega)
  have HC : Hid (∀ w, Calls Try.prog 64 #[.int .i64 x, .int .i64 L] w fun e w' => e = .returned (.int .i64 (x % L)) ∧ w = w') := fun w => around_any x L w hx0 hx1 (by omega) hL1
  generalize x % L = m at *
  go_enter Try.func50, Try.ntmps50
  go_wp2_with fail
  refine (HC.out _).mono ?_
  rintro e w' ⟨rfl, rfl⟩
  go_wp2
  go_ret
  exact ⟨ret_int (by rw [E.out]), rfl⟩

end Go.Proofs.Ytdoikeglaolipaa
