/- The first of the least (out of XBest). -/
import Derived.Test.YtiodlclaempihaaGreatBridgeB
namespace Go.Proofs.YtiodlclaempihaaGreat
open Go.RowKit

/-- the first of the least among the first k -/
def bst (f : Nat → Int) : Nat → Nat
  | 0 => 0
  | k + 1 => if f k < f (bst f k) then k else bst f k
theorem bst_succ (f : Nat → Int) (k : Nat) : bst f (k + 1) = if f k < f (bst f k) then k else bst f k := rfl
theorem bst_one (f : Nat → Int) : bst f 1 = 0 := by rw [bst_succ]; show (if f 0 < f 0 then 0 else 0) = 0; split <;> rfl
theorem minOf_snoc (z : Int) (zs : List Int) (x : Int) : Lib.minOf (z :: zs ++ [x]) = min (Lib.minOf (z :: zs)) x := by
  unfold Lib.minOf
  rw [List.foldl_append]
  rfl
theorem bst_all (f : Nat → Int) (k : Nat) : bst f (k + 1) < k + 1 ∧ (∀ j, j < k + 1 → f (bst f (k + 1)) ≤ f j) ∧ (∀ j, j < bst f (k + 1) → f (bst f (k + 1)) < f j) ∧ Lib.minOf ((List.range (k + 1)).map f) = f (bst f (k + 1)) := by
  induction k with
  | zero =>
    rw [bst_one]
    refine ⟨by omega, fun j hj => ?_, fun j hj => by omega, ?_⟩
    · obtain rfl : j = 0 := by omega
      exact Int.le_refl _
    · show min (f 0) (f 0) = f 0
      omega
  | succ k ih =>
    obtain ⟨h1, h2, h3, h4⟩ := ih
    have hm : Lib.minOf ((List.range (k + 1 + 1)).map f) = min (Lib.minOf ((List.range (k + 1)).map f)) (f (k + 1)) := by
      rw [List.range_succ (n := k + 1), List.map_append]
      cases hc : (List.range (k + 1)).map f with
      | nil => have := congrArg List.length hc; simp at this
      | cons z zs => exact minOf_snoc z zs _
    rw [hm, h4, bst_succ f (k + 1)]
    by_cases h : f (k + 1) < f (bst f (k + 1))
    · rw [if_pos h]
      refine ⟨by omega, fun j hj => ?_, fun j hj => ?_, by omega⟩
      · by_cases hj2 : j < k + 1
        · have := h2 j hj2; omega
        · obtain rfl : j = k + 1 := by omega
          exact Int.le_refl _
      · have := h2 j hj; omega
    · rw [if_neg h]
      refine ⟨by omega, fun j hj => ?_, h3, by omega⟩
      by_cases hj2 : j < k + 1
      · exact h2 j hj2
      · obtain rfl : j = k + 1 := by omega
        omega
theorem bst_idx (f : Nat → Int) (T : Nat) (hT : 1 ≤ T) : Lib.idxOf ((List.range T).map f) (Lib.minOf ((List.range T).map f)) = (bst f T : Int) ∧ bst f T < T := by
  obtain ⟨k, rfl⟩ : ∃ k, T = k + 1 := ⟨T - 1, by omega⟩
  obtain ⟨h1, h2, h3, h4⟩ := bst_all f k
  refine ⟨?_, h1⟩
  have at_ : ∀ j, j < k + 1 → ((List.range (k + 1)).map f).getD j 0 = f j := fun j hj => by
    rw [List.getD_eq_getElem?_getD, List.getElem?_map, List.getElem?_range hj]; rfl
  have := Lib.idxFrom_hit (Lib.minOf ((List.range (k + 1)).map f)) ((List.range (k + 1)).map f) (bst f (k + 1)) 0 (by simpa using h1) (by rw [at_ _ h1, h4]) (fun j hj => by
    rw [at_ j (by omega), h4]
    have := h3 j hj
    omega)
  rw [Nat.zero_add] at this
  exact this

end Go.Proofs.YtiodlclaempihaaGreat
