/- The library's contracts of sorting and reversing, laid at this program: tables of numbers and closed facts alone. -/
import Derived.Shelf.Slices.Turned
import Derived.Test.YtfojldkiagemeaaDoorProg
namespace Go.Proofs.YtfojldkiagemeaaDoor
open Go.Shelf
set_option maxHeartbeats 0
def indexStr_ren : Go.Shelf.Ren := ⟨fun | 109 => 10 | n => n, fun | 31 => 28 | 9 => 9 | 3 => 3 | 0 => 0 | 4 => 4 | n => n, fun | n => n⟩
theorem indexStr : Go.Proofs.Lays.n109 Tryd.prog indexStr_ren := {
  mixed := by kernel_rfl
  f109 := Tryd.func10.trans (congrArg some (by kernel_rfl))
  t0 := Tryd.underlying0
  a0 := Tryd.isAgg0
  z0 := Tryd.sizeOf0
  v0 := Tryd.zeroValue0
  t3 := Tryd.underlying3
  a3 := Tryd.isAgg3
  z3 := Tryd.sizeOf3
  v3 := Tryd.zeroValue3
  t4 := Tryd.underlying4
  a4 := Tryd.isAgg4
  z4 := Tryd.sizeOf4
  v4 := Tryd.zeroValue4
  t9 := Tryd.underlying9
  a9 := Tryd.isAgg9
  z9 := Tryd.sizeOf9
  v9 := Tryd.zeroValue9
  t31 := Tryd.underlying28
  a31 := Tryd.isAgg28
  z31 := Tryd.sizeOf28
  v31 := Tryd.zeroValue28 }
end Go.Proofs.YtfojldkiagemeaaDoor
