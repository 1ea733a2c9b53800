/- CountFalls: the contracts of the program's and of the model's, and of roLeft. -/
import Derived.Test.YtodcacifpjakdaaThat
import Derived.Deep.RegionHeld3
namespace Go.Proofs.Ytodcacifpjakdaa
open Go.RowKit

/-- how many go to the left -/
def nL (L : Int) (l : List (Int × Int)) : Nat := (way (-1) (gsOf L l)).length
theorem gsOf_len (L : Int) (l : List (Int × Int)) : (gsOf L l).length = l.length := by simp [gsOf]
theorem gsOf_nil (L : Int) : gsOf L [] = [] := rfl
theorem nL_le (L : Int) (l : List (Int × Int)) : nL L l ≤ l.length := by
  have := way_len (-1) (gsOf L l)
  rw [gsOf_len] at this
  exact this
theorem nL_snoc_yes (L : Int) (l : List (Int × Int)) (k : Nat) (a : Int) (hx : l[k]? = some (a, -1)) : nL L (l.take (k + 1)) = nL L (l.take k) + 1 := by
  unfold nL
  rw [gsOf_take L l k _ hx, way_snoc_yes _ _ _ rfl, List.length_append]
  rfl
theorem nL_snoc_no (L : Int) (l : List (Int × Int)) (k : Nat) (a : Int) (hx : l[k]? = some (a, 1)) : nL L (l.take (k + 1)) = nL L (l.take k) := by
  unfold nL
  rw [gsOf_take L l k _ hx, way_snoc_no _ _ _ rfl]
theorem ways_sum {L : Int} {l : List (Int × Int)} (hg : goodB L l = true) : (way 1 (gsOf L l)).length + nL L l = l.length := by
  have key : ∀ k, k ≤ l.length → (way 1 (gsOf L (l.take k))).length + nL L (l.take k) = k := by
    intro k
    induction k with
    | zero => intro _; simp [gsOf_nil, way, nL]
    | succ k ih =>
      intro hk
      have hx : l[k]? = some (l[k]'hk) := List.getElem?_eq_getElem hk
      have hw := (good_ant hg hx).2.2.2
      have hi := ih (by omega)
      generalize l[k]'hk = x at *
      obtain ⟨a, y⟩ := x
      simp only at hw
      rcases hw with rfl | rfl
      · rw [nL_snoc_yes L l k a hx, gsOf_take L l k _ hx, way_snoc_no _ _ _ rfl]; omega
      · rw [nL_snoc_no L l k a hx, gsOf_take L l k _ hx, way_snoc_yes _ _ _ rfl, List.length_append]; simp; omega
  have := key l.length (Nat.le_refl _)
  rwa [List.take_length] at this


/-- what CountFalls returns -/
def cfL (L : Int) (l : List (Int × Int)) : Int := if goodB L l then (nL L l : Int) else 0
def cfR (L : Int) (l : List (Int × Int)) : Int := if goodB L l then (l.length : Int) - (nL L l : Int) else 0

theorem ret_iib {a b c d : Int} {x y : Bool} (h : a = b) (h2 : c = d) (h' : x = y) : Ending.returned (.tuple #[.int .i64 a, .int .i64 c, .bool x]) = .returned (.tuple #[.int .i64 b, .int .i64 d, .bool y]) := by rw [h, h2, h']



end Go.Proofs.Ytodcacifpjakdaa
