/- Where the ants of a circle are behind a time, told anew: those of the model's run and the program's moved ones are the same. -/
import Derived.Test.YtdoikeglaolipaaModelC
import Derived.Test.YtdoikeglaolipaaCrewM
namespace Go.Proofs.Ytdoikeglaolipaa

def pmF (t : Int) (x : Int × Int) : Int × Int := (x.1 + x.2 * t, x.2)
theorem srtA_congr {l m : List (Int × Int)} (h : l.Perm m) : srtA l = srtA m := srtA_unique (srtA_srt l) ((srtA_perm l).trans h)
theorem ghC_pm (L : Int) (t : Nat) (x : Int × Int) : ghC L t x = mvK L (pmF t) x := rfl
theorem run_told {L : Int} {l : List (Int × Int)} (h : Circ L l) (t : Nat) : srtA (runC L l t).1 = srtA (l.map (mvK L (pmF t))) := srtA_congr (run_ok h t).1
def caV (L : Int) (l : List (Int × Int)) (t : Int) : List (Int × Int) := srtA (l.map (mvK L (pmF t)))
def caA (L : Int) (l : List (Int × Int)) (t : Int) : List (Int × Int) := if aaOkC L l t then caV L l t else []
def caL (L : Int) (l : List (Int × Int)) (t : Int) : Int := if aaOkC L l t then L else 0
theorem caA_len (L : Int) (l : List (Int × Int)) (t : Int) : (caA L l t).length ≤ l.length := by
  unfold caA
  split
  · unfold caV; rw [srtA_len, List.length_map]; exact Nat.le_refl _
  · exact Nat.zero_le _
end Go.Proofs.Ytdoikeglaolipaa
