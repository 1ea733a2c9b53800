/- One closed fact on the whole program, in a module of its own: the kernel wants some 9 GB for it. -/
import Derived.Test.YtenpmjinbjlpbaaDoorRows
import Derived.ProofKit
import Derived.KernelRfl
namespace Go.Proofs.YtenpmjinbjlpbaaDoor
open Go
set_option maxHeartbeats 0 in
theorem factLifts : (Rows.fnExactFirstDeskRow.lifted == Tryd.prog.liftsFinal) = true := by kernel_rfl
end Go.Proofs.YtenpmjinbjlpbaaDoor
