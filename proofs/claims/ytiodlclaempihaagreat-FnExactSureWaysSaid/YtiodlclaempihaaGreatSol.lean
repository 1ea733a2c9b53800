/- Puzzles' solutions: mathematics. -/
import Derived.Test.YtiodlclaempihaaGreatZaB
import Derived.Test.YtiodlclaempihaaGreatZaD
namespace Go.Proofs.YtiodlclaempihaaGreat
open Go.RowKit

/-- whether the k-th ways fit clues -/
def fitK (L : Int) (l : List Int) (cs : List (Int × Int × Int)) (k : Nat) : Bool := fitAll L (rdL l (wyN l.length k)) cs
/-- those of the first T ways that fit -/
def solK (L : Int) (l : List Int) (cs : List (Int × Int × Int)) (T : Nat) : List ByteArray := ((List.range T).filter (fitK L l cs)).map fun k => txB (wyN l.length k)
theorem solK_zero (L : Int) (l : List Int) (cs : List (Int × Int × Int)) : solK L l cs 0 = [] := rfl
theorem solK_yes {L : Int} {l : List Int} {cs : List (Int × Int × Int)} {T : Nat} (h : fitK L l cs T = true) : solK L l cs (T + 1) = solK L l cs T ++ [txB (wyN l.length T)] := by
  unfold solK
  rw [List.range_succ, List.filter_append, List.map_append]
  simp [h]
theorem solK_no {L : Int} {l : List Int} {cs : List (Int × Int × Int)} {T : Nat} (h : fitK L l cs T = false) : solK L l cs (T + 1) = solK L l cs T := by
  unfold solK
  rw [List.range_succ, List.filter_append, List.map_append]
  simp [h]
theorem solK_len (L : Int) (l : List Int) (cs : List (Int × Int × Int)) (T : Nat) : (solK L l cs T).length ≤ T := by
  unfold solK
  rw [List.length_map]
  have := List.length_filter_le (fitK L l cs) (List.range T)
  rwa [List.length_range] at this
theorem solK_mem {L : Int} {l : List Int} {cs : List (Int × Int × Int)} {T : Nat} {x : ByteArray} (h : x ∈ solK L l cs T) : ∃ k, k < T ∧ x = txB (wyN l.length k) := by
  unfold solK at h
  obtain ⟨k, hk, rfl⟩ := List.mem_map.1 h
  exact ⟨k, List.mem_range.1 (List.mem_filter.1 hk).1, rfl⟩
theorem txB_size (ys : List Int) : (txB ys).size = ys.length := by unfold txB; show (txU ys).toArray.size = _; rw [List.size_toArray, txU_len]
/-- all solutions by some clues -/
def solV (L : Int) (l : List Int) (cs : List (Int × Int × Int)) : List ByteArray := solK L l cs (2 ^ l.length)
theorem solV_len {L : Int} {l : List Int} (cs : List (Int × Int × Int)) (h : l.length ≤ 8) : (solV L l cs).length ≤ 256 := by
  refine Nat.le_trans (solK_len L l cs _) ?_
  have : 2 ^ l.length ≤ 2 ^ 8 := Nat.pow_le_pow_right (by omega) h
  omega
theorem solV_mem {L : Int} {l : List Int} {cs : List (Int × Int × Int)} {x : ByteArray} (h : x ∈ solV L l cs) : x.size = l.length := by
  obtain ⟨k, _, rfl⟩ := solK_mem h
  rw [txB_size, wyN_len]
theorem puzB_parts {L : Int} {l : List Int} {cs : List (Int × Int × Int)} (h : puzB L l cs = true) : hplB L l = true ∧ cs.length ≤ 6 ∧ cluesB l.length cs = true := by
  unfold puzB at h
  simp only [Bool.and_eq_true, decide_eq_true_eq] at h
  exact ⟨h.1.1, h.1.2, h.2⟩
theorem hplB_len {L : Int} {l : List Int} (h : hplB L l = true) : 1 ≤ l.length ∧ l.length ≤ 8 := by
  unfold hplB at h
  simp only [Bool.and_eq_true] at h
  have := (inB_iff _ _ _).1 h.1.1.2
  omega

/-! ### what the functions on puzzles return -/
/-- Solutions -/
def sosV (L : Int) (l : List Int) (cs : List (Int × Int × Int)) : List ByteArray := if puzB L l cs then solV L l cs else []
theorem sosV_len (L : Int) (l : List Int) (cs : List (Int × Int × Int)) : (sosV L l cs).length ≤ 256 := by
  unfold sosV
  split
  · rename_i h; exact solV_len cs (hplB_len (puzB_parts h).1).2
  · simp
/-- CountSolutions -/
def csoV (L : Int) (l : List Int) (cs : List (Int × Int × Int)) : Int := (sosV L l cs).length
/-- FirstSolution -/
def fsoV (L : Int) (l : List Int) (cs : List (Int × Int × Int)) : ByteArray := (sosV L l cs).getD 0 ⟨#[]⟩
def fsoB (L : Int) (l : List Int) (cs : List (Int × Int × Int)) : Bool := decide (0 < (sosV L l cs).length)
/-- IsSolved -/
def islV (L : Int) (l : List Int) (cs : List (Int × Int × Int)) : Bool := (sosV L l cs).length == 1
/-- LeftByClues: behind the first k numbers of clues -/
def leftK (L : Int) (l : List Int) (cs : List (Int × Int × Int)) (T : Nat) : List Int := (List.range T).map fun k => ((solV L l (cs.take k)).length : Int)
theorem leftK_succ (L : Int) (l : List Int) (cs : List (Int × Int × Int)) (T : Nat) : leftK L l cs (T + 1) = leftK L l cs T ++ [((solV L l (cs.take T)).length : Int)] := by
  unfold leftK; rw [List.range_succ, List.map_append]; rfl
theorem leftK_len (L : Int) (l : List Int) (cs : List (Int × Int × Int)) (T : Nat) : (leftK L l cs T).length = T := by simp [leftK]
def lbcV (L : Int) (l : List Int) (cs : List (Int × Int × Int)) : List Int := if puzB L l cs then leftK L l cs (cs.length + 1) else []
theorem lbcV_len (L : Int) (l : List Int) (cs : List (Int × Int × Int)) : (lbcV L l cs).length ≤ 7 := by
  unfold lbcV
  split
  · rename_i h; rw [leftK_len]; have := (puzB_parts h).2.1; omega
  · simp
/-- the clues but the k-th -/
def wiL (cs : List (Int × Int × Int)) (k : Nat) : List (Int × Int × Int) := cs.take k ++ cs.drop (k + 1)
theorem wiL_len {cs : List (Int × Int × Int)} {k : Nat} (h : k < cs.length) : (wiL cs k).length + 1 = cs.length := by
  unfold wiL; rw [List.length_append, List.length_take, List.length_drop]; omega
theorem cluesB_wi {n : Int} {cs : List (Int × Int × Int)} (k : Nat) (h : cluesB n cs = true) : cluesB n (wiL cs k) = true := by
  unfold cluesB at *
  rw [List.all_eq_true] at *
  intro x hx
  unfold wiL at hx
  rcases List.mem_append.1 hx with hx | hx
  · exact h x (List.mem_of_mem_take hx)
  · exact h x (List.mem_of_mem_drop hx)
theorem cluesB_take {n : Int} {cs : List (Int × Int × Int)} (k : Nat) (h : cluesB n cs = true) : cluesB n (cs.take k) = true := by
  unfold cluesB at *
  rw [List.all_eq_true] at *
  exact fun x hx => h x (List.mem_of_mem_take hx)
theorem cluesB_drop {n : Int} {cs : List (Int × Int × Int)} (k : Nat) (h : cluesB n cs = true) : cluesB n (cs.drop k) = true := by
  unfold cluesB at *
  rw [List.all_eq_true] at *
  exact fun x hx => h x (List.mem_of_mem_drop hx)
/-- NeedlessClues: those of the first T -/
def ndK (L : Int) (l : List Int) (cs : List (Int × Int × Int)) (k : Nat) : Bool := (solV L l (wiL cs k)).length == (solV L l cs).length
def ndL (L : Int) (l : List Int) (cs : List (Int × Int × Int)) (T : Nat) : List Int := ((List.range T).filter (ndK L l cs)).map fun (k : Nat) => (k : Int)
theorem ndL_yes {L : Int} {l : List Int} {cs : List (Int × Int × Int)} {T : Nat} (h : ndK L l cs T = true) : ndL L l cs (T + 1) = ndL L l cs T ++ [(T : Int)] := by
  unfold ndL
  rw [List.range_succ, List.filter_append, List.map_append]
  simp [h]
theorem ndL_no {L : Int} {l : List Int} {cs : List (Int × Int × Int)} {T : Nat} (h : ndK L l cs T = false) : ndL L l cs (T + 1) = ndL L l cs T := by
  unfold ndL
  rw [List.range_succ, List.filter_append, List.map_append]
  simp [h]
theorem ndL_len (L : Int) (l : List Int) (cs : List (Int × Int × Int)) (T : Nat) : (ndL L l cs T).length ≤ T := by
  unfold ndL
  rw [List.length_map]
  have := List.length_filter_le (ndK L l cs) (List.range T)
  rwa [List.length_range] at this
def neeV (L : Int) (l : List Int) (cs : List (Int × Int × Int)) : List Int := if puzB L l cs then ndL L l cs cs.length else []
theorem neeV_len (L : Int) (l : List Int) (cs : List (Int × Int × Int)) : (neeV L l cs).length ≤ 6 := by
  unfold neeV
  split
  · rename_i h
    exact Nat.le_trans (ndL_len L l cs _) (puzB_parts h).2.1
  · simp
/-- BestClue: by the k-th clue alone -/
def oneK (L : Int) (l : List Int) (cs : List (Int × Int × Int)) (k : Nat) : Int := (solV L l ((cs.drop k).take 1)).length
def bcOk (L : Int) (l : List Int) (cs : List (Int × Int × Int)) : Bool := puzB L l cs && decide (0 < cs.length)
end Go.Proofs.YtiodlclaempihaaGreat
