/- FallTimes and LastFall: the contracts of the program's and of the model's. -/
import Derived.Test.YtdgcdlcfddjmiaaRoFalls
namespace Go.Proofs.Ytdgcdlcfddjmiaa
open Go.RowKit

/-- what FallTimes returns -/
def ftV (L : Int) (l : List (Int × Int)) : List Int := if goodB L l then fallsOf L l else []
theorem fallsOf_bounds {L : Int} {l : List (Int × Int)} (hg : goodB L l = true) : ∀ x ∈ fallsOf L l, 0 ≤ x ∧ x ≤ 1000 := by
  intro x hx
  unfold fallsOf at hx
  obtain ⟨g, hm, rfl⟩ := List.mem_map.1 hx
  exact ft_bounds (fallAs_good hg g hm)
theorem ftV_bounds (L : Int) (l : List (Int × Int)) : ∀ x ∈ ftV L l, 0 ≤ x ∧ x ≤ 1000 := by
  intro x hx
  unfold ftV at hx
  split at hx
  · exact fallsOf_bounds (by assumption) x hx
  · simp at hx
theorem ftV_len (L : Int) (l : List (Int × Int)) : ((ftV L l).length : Int) ≤ 16 := by
  unfold ftV
  split
  · rename_i h
    rw [fallsOf_len h]; exact good_len h
  · simp
def maxOf (l : List Int) : Int := l.foldl (fun a b => if a < b then b else a) 0
theorem maxOf_snoc (l : List Int) (x : Int) : maxOf (l ++ [x]) = if maxOf l < x then x else maxOf l := by
  unfold maxOf
  rw [List.foldl_append]
  rfl
theorem maxOf_bounds (l : List Int) (h : ∀ x ∈ l, 0 ≤ x ∧ x ≤ 1000) : ∀ k, 0 ≤ maxOf (l.take k) ∧ maxOf (l.take k) ≤ 1000 := by
  intro k
  induction k with
  | zero => simp [maxOf]
  | succ k ih =>
    by_cases hk : k < l.length
    · rw [List.take_succ_eq_append_getElem hk, maxOf_snoc]
      have := h _ (List.getElem_mem hk)
      split <;> omega
    · rw [List.take_of_length_le (by omega)] at ih ⊢
      exact ih
/-- what LastFall returns -/
def lfV (L : Int) (l : List (Int × Int)) : Int := maxOf (ftV L l)



theorem most_at (a b r : Int) (hr : (if a < b then b else a) = r) (w : World) :
    Calls Try.prog 75 #[.int .i64 a, .int .i64 b] w fun e w' => e = .returned (.int .i64 r) ∧ w = w' := by
  subst hr
  by_cases h : b < a
  · have h2 : ¬ a < b := by omega
    rw [if_neg h2]
    go_enter Try.func75, Try.ntmps75
    go_wp2
    go_ret
    exact ⟨ret_int rfl, rfl⟩
  · by_cases h2 : a < b
    · rw [if_pos h2]
      go_enter Try.func75, Try.ntmps75
      go_wp2
      go_ret
      exact ⟨ret_int rfl, rfl⟩
    · obtain rfl : a = b := by omega
      rw [if_neg h2]
      go_enter Try.func75, Try.ntmps75
      go_wp2
      go_ret
      exact ⟨ret_int rfl, rfl⟩




end Go.Proofs.Ytdgcdlcfddjmiaa
