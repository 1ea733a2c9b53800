/- Even times of a rod: the contracts of the program's test and of the model's. -/
import Derived.Test.YthfacfoclekcbaaGood
namespace Go.Proofs.Ythfacfoclekcbaa
open Go.RowKit

def timeB (t : Int) : Bool := (decide (0 ≤ t) && decide (t ≤ 2000)) && (t % 2 == 0)
theorem timeB_le {t : Int} (h : timeB t = true) : 0 ≤ t ∧ t ≤ 2000 := by
  simp only [timeB, Bool.and_eq_true, decide_eq_true_eq] at h
  exact h.1
theorem roTime_at (t : Int) (r : Bool) (hr : timeB t = r) (w : World) :
    Calls Try.prog 28 #[.int .i64 t] w fun e w' => e = .returned (.bool r) ∧ Below w.heap.size w w' := by
  subst hr
  by_cases h : 0 ≤ t ∧ t ≤ 2000
  · have HIN : Hid ((decide (0 ≤ t) && decide (t ≤ 2000)) = true) := by show (_ && _) = true; simp [h]
    have HV : Hid (timeB t = (t % 2 == 0)) := by show _ = _; simp [timeB, h]
    obtain ⟨h0, h1⟩ := h
    go_enter Try.func28, Try.ntmps28
    go_wp2_with (go_at_call 48; refine (in_at _ _ _ true HIN.out _).mono ?_; rintro e w' ⟨rfl, rfl⟩)
    all_goals (
      go_ret
      exact ⟨ret_bool (by rw [HV.out]; try simp_all), Below.refl _ _⟩)
  · have HIN : Hid ((decide (0 ≤ t) && decide (t ≤ 2000)) = false) := by show (_ && _) = false; simp; omega
    have HV : Hid (timeB t = false) := by show _ = _; unfold timeB; rw [HIN.out]; rfl
    clear h
    go_enter Try.func28, Try.ntmps28
    go_wp2_with (go_at_call 48; refine (in_at _ _ _ false HIN.out _).mono ?_; rintro e w' ⟨rfl, rfl⟩)
    all_goals (
      go_ret
      exact ⟨ret_bool HV.out.symm, Below.refl _ _⟩)
theorem isRodTime_at (t : Int) (r : Bool) (hr : timeB t = r) (w : World) :
    Calls Try.prog 25 #[.int .i64 t] w fun e w' => e = .returned (.bool r) ∧ Below w.heap.size w w' := by
  subst hr
  by_cases h0 : 0 ≤ t
  · by_cases h1 : t ≤ 2000
    · have HV : Hid (timeB t = (t % 2 == 0)) := by show _ = _; simp [timeB, h0, h1]
      go_enter Try.func25, Try.ntmps25
      go_wp2
      all_goals (
        go_ret
        exact ⟨ret_bool (by rw [HV.out]; try simp_all), Below.refl _ _⟩)
    · have HV : Hid (timeB t = false) := by show _ = _; simp [timeB, h1]
      go_enter Try.func25, Try.ntmps25
      go_wp2
      all_goals (
        go_ret
        exact ⟨ret_bool HV.out.symm, Below.refl _ _⟩)
  · have HV : Hid (timeB t = false) := by show _ = _; simp [timeB, h0]
    go_enter Try.func25, Try.ntmps25
    go_wp2
    all_goals (
      go_ret
      exact ⟨ret_bool HV.out.symm, Below.refl _ _⟩)
end Go.Proofs.Ythfacfoclekcbaa
