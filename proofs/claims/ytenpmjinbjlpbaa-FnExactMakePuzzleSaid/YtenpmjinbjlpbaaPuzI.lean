/- DoesFit on the model's side. -/
import Derived.Test.YtenpmjinbjlpbaaPuzH
namespace Go.Proofs.Ytenpmjinbjlpbaa
open Go.RowKit

def dfOk (L : Int) (l : List (Int × Int)) (k a b : Int) : Bool := hidB L l && clB l.length k a b
def dfV (L : Int) (l : List (Int × Int)) (k a b : Int) : Bool := dfOk L l k a b && fitB L l k a b
theorem ret_bbP {a b x y : Bool} (h : a = b) (h' : x = y) : Ending.returned (.tuple #[.bool a, .bool x]) = .returned (.tuple #[.bool b, .bool y]) := by rw [h, h']
theorem hidB_len {L : Int} {l : List (Int × Int)} (h : hidB L l = true) : 1 ≤ l.length ∧ l.length ≤ 8 := by
  unfold hidB hplB at h
  simp only [Bool.and_eq_true] at h
  have := (inB_iff _ _ _).1 h.2.1.1.2
  simp at this
  omega
theorem hidB_good {L : Int} {l : List (Int × Int)} (h : hidB L l = true) : goodB L l = true := by
  unfold hidB at h
  simp only [Bool.and_eq_true] at h
  exact h.1
end Go.Proofs.Ytenpmjinbjlpbaa
