/- The ants of a rod are sorted; what mirrored and turned ones are. No dump is read here. -/
import Derived.Test.YtdmpgnkiejcljaaCount
import Derived.Test.YtdmpgnkiejcljaaSrt
namespace Go.Proofs.Ytdmpgnkiejcljaa

theorem good_next {L : Int} {l : List (Int × Int)} (h : goodB L l = true) (k : Nat) (hk : k + 1 < l.length) : antLt (l.getD k (0, 0)) (l.getD (k + 1) (0, 0)) = true := by
  simp only [goodB, Bool.and_eq_true, List.all_eq_true] at h
  have h1 := h.2 (k + 1) (List.mem_range.2 hk)
  simp only [okAt, Bool.and_eq_true, Bool.or_eq_true, Nat.add_sub_cancel] at h1
  rcases h1.2 with h2 | h2
  · simp at h2
  · simp only [mayB, metB, Bool.or_eq_true, Bool.and_eq_true, decide_eq_true_eq, beq_iff_eq] at h2
    rw [antLt_iff]
    omega
theorem good_lt {L : Int} {l : List (Int × Int)} (h : goodB L l = true) (i : Nat) : ∀ j, i < j → j < l.length → antLt (l.getD i (0, 0)) (l.getD j (0, 0)) = true := by
  intro j
  induction j with
  | zero => intro h; omega
  | succ j ih =>
    intro hij hj
    have h1 := good_next h j hj
    by_cases hi : i = j
    · subst hi; exact h1
    · have h2 := ih (by omega) (by omega)
      rw [antLt_iff] at *
      omega
theorem good_srt {L : Int} {l : List (Int × Int)} (h : goodB L l = true) : Srt l := by
  unfold Srt
  rw [List.pairwise_iff_getElem]
  intro i j hi hj hij
  have h1 := good_lt h i j hij hj
  rw [List.getD_eq_getElem?_getD, List.getD_eq_getElem?_getD, List.getElem?_eq_getElem hi, List.getElem?_eq_getElem hj] at h1
  simp only [Option.getD_some] at h1
  rw [antLt_iff] at h1
  rw [antLe_iff]
  omega

def mirF (L : Int) (x : Int × Int) : Int × Int := (L - x.1, -x.2)
def turnF (x : Int × Int) : Int × Int := (x.1, -x.2)
theorem mir_reverse {L : Int} {l : List (Int × Int)} (h : goodB L l = true) : (l.map (mirF L)).reverse = srtA (l.map (mirF L)) := by
  refine srt_reverse _ _ ((good_srt h).imp fun {a b} h => ?_)
  rw [antLe_iff] at *
  simp only [mirF]
  omega

def goodL (L : Int) (l : List (Int × Int)) : Int := if goodB L l then L else 0
def mrA (L : Int) (l : List (Int × Int)) : List (Int × Int) := if goodB L l then srtA (l.map (mirF L)) else []
def twA (L : Int) (l : List (Int × Int)) : List (Int × Int) := if goodB L l then srtA (l.map turnF) else []
theorem mrA_len (L : Int) (l : List (Int × Int)) : (mrA L l).length ≤ l.length := by
  unfold mrA
  split
  · rw [srtA_len, List.length_map]; exact Nat.le_refl _
  · exact Nat.zero_le _
theorem twA_len (L : Int) (l : List (Int × Int)) : (twA L l).length ≤ l.length := by
  unfold twA
  split
  · rw [srtA_len, List.length_map]; exact Nat.le_refl _
  · exact Nat.zero_le _
def aaOk (L : Int) (l : List (Int × Int)) (a y : Int) : Bool := goodB L l && goodB L (srtA (l ++ [(a, y)]))
def aaL (L : Int) (l : List (Int × Int)) (a y : Int) : Int := if aaOk L l a y then L else 0
def aaA (L : Int) (l : List (Int × Int)) (a y : Int) : List (Int × Int) := if aaOk L l a y then srtA (l ++ [(a, y)]) else []
theorem aaA_len (L : Int) (l : List (Int × Int)) (a y : Int) : (aaA L l a y).length ≤ l.length + 1 := by
  unfold aaA
  split
  · rw [srtA_len, List.length_append]; exact Nat.le_refl _
  · exact Nat.zero_le _
end Go.Proofs.Ytdmpgnkiejcljaa
