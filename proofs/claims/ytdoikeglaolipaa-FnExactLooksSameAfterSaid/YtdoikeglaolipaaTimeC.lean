/- Even times of a circle: the contracts of the program's test and of the model's. -/
import Derived.Test.YtdoikeglaolipaaGood
namespace Go.Proofs.Ytdoikeglaolipaa
open Go.RowKit

def timeC (t : Int) : Bool := (decide (0 ≤ t) && decide (t ≤ 4000)) && (t % 2 == 0)
theorem timeC_le {t : Int} (h : timeC t = true) : 0 ≤ t ∧ t ≤ 4000 := by
  simp only [timeC, Bool.and_eq_true, decide_eq_true_eq] at h
  exact h.1
theorem ciTime_at (t : Int) (r : Bool) (hr : timeC t = r) (w : World) :
    Calls Try.prog 37 #[.int .i64 t] w fun e w' => e = .returned (.bool r) ∧ Below w.heap.size w w' := by
  subst hr
  by_cases h : 0 ≤ t ∧ t ≤ 4000
  · have HIN : Hid ((decide (0 ≤ t) && decide (t ≤ 4000)) = true) := by show (_ && _) = true; simp [h]
    have HV : Hid (timeC t = (t % 2 == 0)) := by show _ = _; simp [timeC, h]
    obtain ⟨h0, h1⟩ := h
    go_enter Try.func37, Try.ntmps37
    go_wp2_with (go_at_call 48; refine (in_at _ _ _ true HIN.out _).mono ?_; rintro e w' ⟨rfl, rfl⟩)
    all_goals (
      go_ret
      exact ⟨ret_bool (by rw [HV.out]; try simp_all), Below.refl _ _⟩)
  · have HIN : Hid ((decide (0 ≤ t) && decide (t ≤ 4000)) = false) := by show (_ && _) = false; simp; omega
    have HV : Hid (timeC t = false) := by show _ = _; unfold timeC; rw [HIN.out]; rfl
    clear h
    go_enter Try.func37, Try.ntmps37
    go_wp2_with (go_at_call 48; refine (in_at _ _ _ false HIN.out _).mono ?_; rintro e w' ⟨rfl, rfl⟩)
    all_goals (
      go_ret
      exact ⟨ret_bool HV.out.symm, Below.refl _ _⟩)
theorem isRoundTime_at (t : Int) (r : Bool) (hr : timeC t = r) (w : World) :
    Calls Try.prog 42 #[.int .i64 t] w fun e w' => e = .returned (.bool r) ∧ Below w.heap.size w w' := by
  subst hr
  by_cases h0 : 0 ≤ t
  · by_cases h1 : t ≤ 4000
    · have HV : Hid (timeC t = (t % 2 == 0)) := by show _ = _; simp [timeC, h0, h1]
      go_enter Try.func42, Try.ntmps42
      go_wp2
      all_goals (
        go_ret
        exact ⟨ret_bool (by rw [HV.out]; try simp_all), Below.refl _ _⟩)
    · have HV : Hid (timeC t = false) := by show _ = _; simp [timeC, h1]
      go_enter Try.func42, Try.ntmps42
      go_wp2
      all_goals (
        go_ret
        exact ⟨ret_bool HV.out.symm, Below.refl _ _⟩)
  · have HV : Hid (timeC t = false) := by show _ = _; simp [timeC, h0]
    go_enter Try.func42, Try.ntmps42
    go_wp2
    all_goals (
      go_ret
      exact ⟨ret_bool HV.out.symm, Below.refl _ _⟩)
end Go.Proofs.Ytdoikeglaolipaa
