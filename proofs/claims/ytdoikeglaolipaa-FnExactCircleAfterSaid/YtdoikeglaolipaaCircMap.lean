/- What MirrorCircle, SpinCircle and BackCircle return. -/
import Derived.Test.YtdoikeglaolipaaSrtGood
import Derived.Test.YtdoikeglaolipaaShift
namespace Go.Proofs.Ytdoikeglaolipaa

def mirC (L : Int) (x : Int × Int) : Int × Int := ((L - x.1) % L, -x.2)
def cirL (L : Int) (l : List (Int × Int)) : Int := if ciB L l then L else 0
def mcA (L : Int) (l : List (Int × Int)) : List (Int × Int) := if ciB L l then srtA (l.map (mirC L)) else []
def bcA (L : Int) (l : List (Int × Int)) : List (Int × Int) := if ciB L l then srtA (l.map turnF) else []
theorem mcA_len (L : Int) (l : List (Int × Int)) : (mcA L l).length ≤ l.length := by
  unfold mcA
  split
  · rw [srtA_len, List.length_map]; exact Nat.le_refl _
  · exact Nat.zero_le _
theorem bcA_len (L : Int) (l : List (Int × Int)) : (bcA L l).length ≤ l.length := by
  unfold bcA
  split
  · rw [srtA_len, List.length_map]; exact Nat.le_refl _
  · exact Nat.zero_le _
end Go.Proofs.Ytdoikeglaolipaa
