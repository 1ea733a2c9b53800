/- The ants of a rod are sorted; what mirrored and turned ones are. No dump is read here. -/
import Derived.Test.YtenpmjinbjlpbaaCount
import Derived.Test.YtenpmjinbjlpbaaSrt
namespace Go.Proofs.Ytenpmjinbjlpbaa

theorem good_srt {L : Int} {l : List (Int × Int)} (h : goodB L l = true) : Srt l := by
  unfold Srt
  rw [List.pairwise_iff_getElem]
  intro i j hi hj hij
  have h1 := good_lt h i j hij hj
  rw [List.getD_eq_getElem?_getD, List.getD_eq_getElem?_getD, List.getElem?_eq_getElem hi, List.getElem?_eq_getElem hj] at h1
  simp only [Option.getD_some] at h1
  rw [antLt_iff] at h1
  rw [antLe_iff]
  omega

def mirF (L : Int) (x : Int × Int) : Int × Int := (L - x.1, -x.2)
def turnF (x : Int × Int) : Int × Int := (x.1, -x.2)
theorem mir_reverse {L : Int} {l : List (Int × Int)} (h : goodB L l = true) : (l.map (mirF L)).reverse = srtA (l.map (mirF L)) := by
  refine srt_reverse _ _ ((good_srt h).imp fun {a b} h => ?_)
  rw [antLe_iff] at *
  simp only [mirF]
  omega

def goodL (L : Int) (l : List (Int × Int)) : Int := if goodB L l then L else 0
def mrA (L : Int) (l : List (Int × Int)) : List (Int × Int) := if goodB L l then srtA (l.map (mirF L)) else []
def twA (L : Int) (l : List (Int × Int)) : List (Int × Int) := if goodB L l then srtA (l.map turnF) else []
theorem mrA_len (L : Int) (l : List (Int × Int)) : (mrA L l).length ≤ l.length := by
  unfold mrA
  split
  · rw [srtA_len, List.length_map]; exact Nat.le_refl _
  · exact Nat.zero_le _
theorem twA_len (L : Int) (l : List (Int × Int)) : (twA L l).length ≤ l.length := by
  unfold twA
  split
  · rw [srtA_len, List.length_map]; exact Nat.le_refl _
  · exact Nat.zero_le _
def aaOk (L : Int) (l : List (Int × Int)) (a y : Int) : Bool := goodB L l && goodB L (srtA (l ++ [(a, y)]))
def aaL (L : Int) (l : List (Int × Int)) (a y : Int) : Int := if aaOk L l a y then L else 0
def aaA (L : Int) (l : List (Int × Int)) (a y : Int) : List (Int × Int) := if aaOk L l a y then srtA (l ++ [(a, y)]) else []
theorem aaA_len (L : Int) (l : List (Int × Int)) (a y : Int) : (aaA L l a y).length ≤ l.length + 1 := by
  unfold aaA
  split
  · rw [srtA_len, List.length_append]; exact Nat.le_refl _
  · exact Nat.zero_le _
end Go.Proofs.Ytenpmjinbjlpbaa
