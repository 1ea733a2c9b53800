/- Parts of an array of ants, as slices. -/
import Derived.Test.YtdoikeglaolipaaCrewM
import Derived.Test.YtdoikeglaolipaaProg
namespace Go.Proofs.Ytdoikeglaolipaa
open Go.RowKit

theorem crewLen : Try.prog.arrayLen 61 = 16 := by kernel_rfl
theorem crewElem : Try.prog.elem 61 = 59 := by kernel_rfl
theorem crewUnd : Try.prog.underlying 61 = some (.array (Try.prog.arrayLen 61) (Try.prog.elem 61)) := by kernel_rfl
theorem crewSiz : (Try.prog.info? 61).map (·.size) = some 32 := by kernel_rfl
theorem add_plain (g o n : Nat) : (⟨g, o, none⟩ : Addr).add n = ⟨g, o + n, none⟩ := by unfold Addr.add; split <;> simp_all
theorem sliceK_l (w : World) (g n : Nat) (hn : n < 16) : (Instr.sliceAt 61 (.pointer (some ⟨g, 0, none⟩)) (some (.int .i64 n)) none none).run Try.prog w = .ok (.slice (some ⟨g, n * 2, none⟩) (16 - n) (16 - n)) w := by
  rw [run_sliceAt_array_l w 61 ⟨g, 0, none⟩ crewUnd .i64 n (by omega) (by rw [crewLen]; omega), crewElem, crewLen]
  have h : ¬ 16 = n := by omega
  simp [Try.sizeOf59, Result.andThen, slicedAt, h, add_plain]
theorem sliceK_h (w : World) (g n : Nat) (hn : n ≤ 16) : (Instr.sliceAt 61 (.pointer (some ⟨g, 0, none⟩)) none (some (.int .i64 n)) none).run Try.prog w = .ok (.slice (some ⟨g, 0, none⟩) n 16) w := by
  rw [run_sliceAt_array_h w 61 ⟨g, 0, none⟩ crewUnd .i64 n (by omega) (by rw [crewLen]; omega), crewElem, crewLen]
  simp [Try.sizeOf59, Result.andThen, slicedAt, add_plain]
end Go.Proofs.Ytdoikeglaolipaa
