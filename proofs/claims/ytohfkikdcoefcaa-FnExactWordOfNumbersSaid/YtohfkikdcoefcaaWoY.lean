/- Words: CountWords and WordsBefore, both sides. -/
import Derived.Test.YtohfkikdcoefcaaWoX
namespace Go.Proofs.Ytohfkikdcoefcaa
open Go.RowKit

/-- numbers of both signs in their bounds -/
def twoB (a b m : Int) : Bool := (decide (0 ≤ a) && decide (a ≤ m)) && (decide (0 ≤ b) && decide (b ≤ m))
theorem twoB_iff (a b m : Int) : twoB a b m = true ↔ 0 ≤ a ∧ a ≤ m ∧ 0 ≤ b ∧ b ≤ m := by unfold twoB; simp; omega
set_option maxHeartbeats 1000000 in
theorem woTwo_any (a b m : Int) (w : World) :
    Calls Try.prog 22 #[.int .i64 a, .int .i64 b, .int .i64 m] w fun e w' => e = .returned (.bool (twoB a b m)) ∧ w' = w := by
  have H1 := Lib.hid (fun W => l1In_any a 0 m W)
  have H2 := Lib.hid (fun W => l1In_any b 0 m W)
  unfold twoB
  generalize (decide (0 ≤ a) && decide (a ≤ m)) = r at *
  generalize (decide (0 ≤ b) && decide (b ≤ m)) = s at *
  cases r with
  | false =>
    go_enter Try.func22, Try.ntmps22
    go_wp2_with fail
    refine (H1.out _).mono ?_
    rintro e w1 ⟨rfl, rfl⟩
    go_wp2
    go_ret
    exact ⟨rfl, rfl⟩
  | true =>
    go_enter Try.func22, Try.ntmps22
    go_wp2_with fail
    refine (H1.out _).mono ?_
    rintro e w1 ⟨rfl, rfl⟩
    go_wp2_with fail
    refine (H2.out _).mono ?_
    rintro e w2 ⟨rfl, rfl⟩
    go_wp2
    go_ret
    exact ⟨rfl, rfl⟩
set_option maxHeartbeats 1000000 in
theorem areSigns_any (a b m : Int) (w : World) :
    Calls Try.prog 20 #[.int .i64 a, .int .i64 b, .int .i64 m] w fun e w' => e = .returned (.bool (twoB a b m)) ∧ w' = w := by
  by_cases h1 : 0 ≤ a
  · by_cases h2 : a ≤ m
    · by_cases h3 : 0 ≤ b
      · by_cases h4 : b ≤ m
        · have HV : Hid (twoB a b m = true) := Lib.hid ((twoB_iff a b m).2 ⟨h1, h2, h3, h4⟩)
          go_enter Try.func20, Try.ntmps20
          go_wp2
          go_ret
          exact ⟨ret_bool HV.out.symm, rfl⟩
        · have HV : Hid (twoB a b m = false) := Lib.hid (by rw [Bool.eq_false_iff, Ne, twoB_iff]; omega)
          go_enter Try.func20, Try.ntmps20
          go_wp2
          go_ret
          exact ⟨ret_bool HV.out.symm, rfl⟩
      · have HV : Hid (twoB a b m = false) := Lib.hid (by rw [Bool.eq_false_iff, Ne, twoB_iff]; omega)
        go_enter Try.func20, Try.ntmps20
        go_wp2
        go_ret
        exact ⟨ret_bool HV.out.symm, rfl⟩
    · have HV : Hid (twoB a b m = false) := Lib.hid (by rw [Bool.eq_false_iff, Ne, twoB_iff]; omega)
      go_enter Try.func20, Try.ntmps20
      go_wp2
      go_ret
      exact ⟨ret_bool HV.out.symm, rfl⟩
  · have HV : Hid (twoB a b m = false) := Lib.hid (by rw [Bool.eq_false_iff, Ne, twoB_iff]; omega)
    go_enter Try.func20, Try.ntmps20
    go_wp2
    go_ret
    exact ⟨ret_bool HV.out.symm, rfl⟩



end Go.Proofs.Ytohfkikdcoefcaa
