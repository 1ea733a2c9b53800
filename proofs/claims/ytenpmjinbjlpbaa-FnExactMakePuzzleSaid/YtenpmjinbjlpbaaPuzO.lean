/- Puzzles, the model: the clues but one (pzWithout). -/
import Derived.Test.YtenpmjinbjlpbaaPuz
import Derived.Test.YtenpmjinbjlpbaaStep
import Derived.Deep.RegionHeld3
namespace Go.Proofs.Ytenpmjinbjlpbaa
open Go.RowKit

theorem SlAt.dropIfT {w : World} {b off : Nat} {l : List (Int × Int × Int)} (h : SlAt tripS w (some ⟨b, off, none⟩) l) (k c : Nat) (hc : l.length ≤ c) :
    SlAt tripS w (if c = k + 1 then some ⟨b, off, none⟩ else some ⟨b, off + (k + 1) * 3, none⟩) (l.drop (k + 1)) := by
  split
  · exact .inl (List.drop_eq_nil_of_le (by omega))
  · exact h.drop (k + 1)
theorem clueInfo : (Try.prog.info? 35).map (fun i => (i.zero, i.size, i.bytes)) = some (some (.agg #[.int .i64 0, .int .i64 0, .int .i64 0]), tripS.size, 24) := by kernel_rfl
/-- the clues but the k-th -/
def wiP (cs : List (Int × Int × Int)) (k : Nat) : List (Int × Int × Int) := cs.take k ++ cs.drop (k + 1)
theorem wiP_len {cs : List (Int × Int × Int)} {k : Nat} (h : k < cs.length) : (wiP cs k).length = k + (cs.length - (k + 1)) := by
  unfold wiP; rw [List.length_append, List.length_take, List.length_drop]; omega
end Go.Proofs.Ytenpmjinbjlpbaa
