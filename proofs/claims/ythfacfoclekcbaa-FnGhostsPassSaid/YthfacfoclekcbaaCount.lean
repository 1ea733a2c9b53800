/- CountMeetings: the contracts of the program's and of the model's, and of roMeetings. -/
import Derived.Test.YthfacfoclekcbaaGood
import Derived.Test.YthfacfoclekcbaaGhosts
import Derived.Test.YthfacfoclekcbaaGoodF
namespace Go.Proofs.Ythfacfoclekcbaa
open Go.RowKit

def mStep (s : Int × Int) (y : Int) : Int × Int := if y = 1 then (s.1, s.2 + 1) else (s.1 + s.2, s.2)
def mAll (l : List (Int × Int)) : Int × Int := l.foldl (fun s p => mStep s p.2) (0, 0)
theorem mAll_snoc (l : List (Int × Int)) (k : Nat) (x : Int × Int) (hx : l[k]? = some x) : mAll (l.take (k + 1)) = mStep (mAll (l.take k)) x.2 := by
  obtain ⟨hk, rfl⟩ := List.getElem?_eq_some_iff.1 hx
  unfold mAll
  rw [List.take_succ_eq_append_getElem hk, List.foldl_append]
  rfl
theorem mAll_bounds (l : List (Int × Int)) : ∀ k, k ≤ l.length → k ≤ 16 → 0 ≤ (mAll (l.take k)).2 ∧ (mAll (l.take k)).2 ≤ k ∧ 0 ≤ (mAll (l.take k)).1 ∧ (mAll (l.take k)).1 ≤ 16 * k := by
  intro k
  induction k with
  | zero => intro _ _; simp [mAll]
  | succ k ih =>
    intro hk h16
    obtain ⟨h1, h2, h3, h4⟩ := ih (by omega) (by omega)
    rw [mAll_snoc l k _ (List.getElem?_eq_getElem hk)]
    unfold mStep
    split <;> refine ⟨?_, ?_, ?_, ?_⟩ <;> simp only <;> omega

/-- what CountMeetings returns -/
def cmV (L : Int) (l : List (Int × Int)) : Int := if goodB L l then (mAll l).1 else 0

theorem ret_ib {a b : Int} {x y : Bool} (h : a = b) (h' : x = y) : Ending.returned (.tuple #[.int .i64 a, .bool x]) = .returned (.tuple #[.int .i64 b, .bool y]) := by rw [h, h']

end Go.Proofs.Ythfacfoclekcbaa
