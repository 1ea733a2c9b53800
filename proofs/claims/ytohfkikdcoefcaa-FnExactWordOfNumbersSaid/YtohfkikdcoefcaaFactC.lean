/- One closed fact on the whole program, in a module of its own: the kernel wants some 9 GB for it. -/
import Derived.Test.YtohfkikdcoefcaaRows
import Derived.ProofKit
import Derived.KernelRfl
namespace Go.Proofs.Ytohfkikdcoefcaa
open Go
set_option maxHeartbeats 0 in
theorem factMake : (Try.prog.make == some Rows.fnExactWordOfNumbersRow.make) = true := by kernel_rfl
end Go.Proofs.Ytohfkikdcoefcaa
