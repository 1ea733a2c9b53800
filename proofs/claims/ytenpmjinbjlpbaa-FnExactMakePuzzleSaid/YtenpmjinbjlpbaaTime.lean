/- Even times of a rod: the contracts of the program's test and of the model's. -/
import Derived.Test.YtenpmjinbjlpbaaGood
namespace Go.Proofs.Ytenpmjinbjlpbaa
open Go.RowKit

def timeB (t : Int) : Bool := (decide (0 ≤ t) && decide (t ≤ 2000)) && (t % 2 == 0)
theorem timeB_le {t : Int} (h : timeB t = true) : 0 ≤ t ∧ t ≤ 2000 := by
  simp only [timeB, Bool.and_eq_true, decide_eq_true_eq] at h
  exact h.1
theorem isRodTime_at (t : Int) (r : Bool) (hr : timeB t = r) (w : World) :
    Calls Try.prog 91 #[.int .i64 t] w fun e w' => e = .returned (.bool r) ∧ Below w.heap.size w w' := by
  subst hr
  by_cases h0 : 0 ≤ t
  · by_cases h1 : t ≤ 2000
    · have HV : Hid (timeB t = (t % 2 == 0)) := by show _ = _; simp [timeB, h0, h1]
      go_enter Try.func91, Try.ntmps91
      go_wp2
      all_goals (
        go_ret
        exact ⟨ret_bool (by rw [HV.out]; try simp_all), Below.refl _ _⟩)
    · have HV : Hid (timeB t = false) := by show _ = _; simp [timeB, h1]
      go_enter Try.func91, Try.ntmps91
      go_wp2
      all_goals (
        go_ret
        exact ⟨ret_bool HV.out.symm, Below.refl _ _⟩)
  · have HV : Hid (timeB t = false) := by show _ = _; simp [timeB, h0]
    go_enter Try.func91, Try.ntmps91
    go_wp2
    all_goals (
      go_ret
      exact ⟨ret_bool HV.out.symm, Below.refl _ _⟩)
end Go.Proofs.Ytenpmjinbjlpbaa
