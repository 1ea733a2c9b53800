/-
  No cell of these rows narrows 'for every input' (looked for: loops, veiled, ifaces, maps, wideKeys, modest, calm, conditions, laid).
  DERIVED. THE GIVEN ROWS OF THIS SEAT. 8 by the template 'for every input the law returns true; each argument reads behind the call as it read before'; 0 by the template 'total and deterministic' (their statements: YtdoikeglaolipaaTotals.lean).
  GIVEN WITH THE SEED: the statements are not yours to turn. If you find one false, say at which input.
  Laid BY PROGRAM, IN A SANDBOX (cutbox-rows.mjs): the forced cells as the released guide's own fill.sh prints them over the translation 592deb3bad3f2c74… (all of the seat's roots in one cut). By AI agents, Wed Nov 11 2026. No macro, syntax, notation, axiom, sorry.
-/
import Derived.Test.YtdoikeglaolipaaChecked
import GoSem.Claim
import GoSem.ClaimJoined
import GoSem.ClaimMapViews
import Derived.JoinedTies
import Derived.KernelRfl
namespace Go.Proofs.Ytdoikeglaolipaa
/- THE CELL 'sum', in the pinned program and in every row, IS THE sha256 OF THE DUMP (.gsa) THAT YtdoikeglaolipaaProg.lean LOADS. Nothing in Lean hashes anything: it is a label: what it is worth is what the hold of that sum in a sandbox is worth. -/
noncomputable def Try.pinned : Pinned := { name := "ytdoikeglaolipaa", sum := "592deb3bad3f2c745dec8ebae87e23233f64f65b94b465a0194c247b4e64b82e", checked := Try.checked }
namespace Rows
def none {H : Type} : Left H := { results := [], args := [] }

/-- 'laws.FnExactCircleAfter': WHATEVER THE INPUT: true; the input reads as it did. -/
def fnExactCircleAfterSpec : ChangeSpec := { name := "fnExactCircleAfter", fn := fun _ => fun
  | [d1, d2] => { results := [.lit (.bool true)], args := [d1, d2] }
  | _ => none }
def fnExactCircleAfterRow : OpenClaim := { program := "ytdoikeglaolipaa", sum := "592deb3bad3f2c745dec8ebae87e23233f64f65b94b465a0194c247b4e64b82e", func := "loop.example/g01270/laws.FnExactCircleAfter", spec := "fnExactCircleAfter", unfollowed := true, recurses := true, apart := false }
def FnExactCircleAfterSaid : Prop := fnExactCircleAfterRow.holds Try.pinned (OpenSpec.ofChange fnExactCircleAfterSpec)

/-- ITS FALSE NEIGHBOUR: 'it returns false'. Refute it at one input. -/
def fnExactCircleAfterWrong : ChangeSpec := { name := "fnExactCircleAfter", fn := fun _ => fun
  | [d1, d2] => { results := [.lit (.bool false)], args := [d1, d2] }
  | _ => none }
def FnExactCircleAfterWrongFalsely : Prop := fnExactCircleAfterRow.holds Try.pinned (OpenSpec.ofChange fnExactCircleAfterWrong)

/-- 'laws.FnExactAntsAround': WHATEVER THE INPUT: true; the input reads as it did. -/
def fnExactAntsAroundSpec : ChangeSpec := { name := "fnExactAntsAround", fn := fun _ => fun
  | [d1, d2] => { results := [.lit (.bool true)], args := [d1, d2] }
  | _ => none }
def fnExactAntsAroundRow : OpenClaim := { program := "ytdoikeglaolipaa", sum := "592deb3bad3f2c745dec8ebae87e23233f64f65b94b465a0194c247b4e64b82e", func := "loop.example/g01270/laws.FnExactAntsAround", spec := "fnExactAntsAround", unfollowed := true, recurses := true, apart := false }
def FnExactAntsAroundSaid : Prop := fnExactAntsAroundRow.holds Try.pinned (OpenSpec.ofChange fnExactAntsAroundSpec)

/-- ITS FALSE NEIGHBOUR: 'it returns false'. Refute it at one input. -/
def fnExactAntsAroundWrong : ChangeSpec := { name := "fnExactAntsAround", fn := fun _ => fun
  | [d1, d2] => { results := [.lit (.bool false)], args := [d1, d2] }
  | _ => none }
def FnExactAntsAroundWrongFalsely : Prop := fnExactAntsAroundRow.holds Try.pinned (OpenSpec.ofChange fnExactAntsAroundWrong)

/-- 'laws.FnExactWayAround': WHATEVER THE INPUT: true; the input reads as it did. -/
def fnExactWayAroundSpec : ChangeSpec := { name := "fnExactWayAround", fn := fun _ => fun
  | [d1, d2, d3] => { results := [.lit (.bool true)], args := [d1, d2, d3] }
  | _ => none }
def fnExactWayAroundRow : OpenClaim := { program := "ytdoikeglaolipaa", sum := "592deb3bad3f2c745dec8ebae87e23233f64f65b94b465a0194c247b4e64b82e", func := "loop.example/g01270/laws.FnExactWayAround", spec := "fnExactWayAround", unfollowed := true, recurses := true, apart := false }
def FnExactWayAroundSaid : Prop := fnExactWayAroundRow.holds Try.pinned (OpenSpec.ofChange fnExactWayAroundSpec)

/-- ITS FALSE NEIGHBOUR: 'it returns false'. Refute it at one input. -/
def fnExactWayAroundWrong : ChangeSpec := { name := "fnExactWayAround", fn := fun _ => fun
  | [d1, d2, d3] => { results := [.lit (.bool false)], args := [d1, d2, d3] }
  | _ => none }
def FnExactWayAroundWrongFalsely : Prop := fnExactWayAroundRow.holds Try.pinned (OpenSpec.ofChange fnExactWayAroundWrong)

/-- 'laws.FnExactLooksSameAfter': WHATEVER THE INPUT: true; the input reads as it did. -/
def fnExactLooksSameAfterSpec : ChangeSpec := { name := "fnExactLooksSameAfter", fn := fun _ => fun
  | [d] => { results := [.lit (.bool true)], args := [d] }
  | _ => none }
def fnExactLooksSameAfterRow : OpenClaim := { program := "ytdoikeglaolipaa", sum := "592deb3bad3f2c745dec8ebae87e23233f64f65b94b465a0194c247b4e64b82e", func := "loop.example/g01270/laws.FnExactLooksSameAfter", spec := "fnExactLooksSameAfter", unfollowed := true, recurses := true, apart := false }
def FnExactLooksSameAfterSaid : Prop := fnExactLooksSameAfterRow.holds Try.pinned (OpenSpec.ofChange fnExactLooksSameAfterSpec)

/-- ITS FALSE NEIGHBOUR: 'it returns false'. Refute it at one input. -/
def fnExactLooksSameAfterWrong : ChangeSpec := { name := "fnExactLooksSameAfter", fn := fun _ => fun
  | [d] => { results := [.lit (.bool false)], args := [d] }
  | _ => none }
def FnExactLooksSameAfterWrongFalsely : Prop := fnExactLooksSameAfterRow.holds Try.pinned (OpenSpec.ofChange fnExactLooksSameAfterWrong)

/-- 'laws.FnExactComesBackAfter': WHATEVER THE INPUT: true; the input reads as it did. -/
def fnExactComesBackAfterSpec : ChangeSpec := { name := "fnExactComesBackAfter", fn := fun _ => fun
  | [d] => { results := [.lit (.bool true)], args := [d] }
  | _ => none }
def fnExactComesBackAfterRow : OpenClaim := { program := "ytdoikeglaolipaa", sum := "592deb3bad3f2c745dec8ebae87e23233f64f65b94b465a0194c247b4e64b82e", func := "loop.example/g01270/laws.FnExactComesBackAfter", spec := "fnExactComesBackAfter", unfollowed := true, recurses := true, apart := false }
def FnExactComesBackAfterSaid : Prop := fnExactComesBackAfterRow.holds Try.pinned (OpenSpec.ofChange fnExactComesBackAfterSpec)

/-- ITS FALSE NEIGHBOUR: 'it returns false'. Refute it at one input. -/
def fnExactComesBackAfterWrong : ChangeSpec := { name := "fnExactComesBackAfter", fn := fun _ => fun
  | [d] => { results := [.lit (.bool false)], args := [d] }
  | _ => none }
def FnExactComesBackAfterWrongFalsely : Prop := fnExactComesBackAfterRow.holds Try.pinned (OpenSpec.ofChange fnExactComesBackAfterWrong)

/-- 'laws.FnExactMirrorCircle': WHATEVER THE INPUT: true; the input reads as it did. -/
def fnExactMirrorCircleSpec : ChangeSpec := { name := "fnExactMirrorCircle", fn := fun _ => fun
  | [d] => { results := [.lit (.bool true)], args := [d] }
  | _ => none }
def fnExactMirrorCircleRow : OpenClaim := { program := "ytdoikeglaolipaa", sum := "592deb3bad3f2c745dec8ebae87e23233f64f65b94b465a0194c247b4e64b82e", func := "loop.example/g01270/laws.FnExactMirrorCircle", spec := "fnExactMirrorCircle", unfollowed := true, recurses := true, apart := false }
def FnExactMirrorCircleSaid : Prop := fnExactMirrorCircleRow.holds Try.pinned (OpenSpec.ofChange fnExactMirrorCircleSpec)

/-- ITS FALSE NEIGHBOUR: 'it returns false'. Refute it at one input. -/
def fnExactMirrorCircleWrong : ChangeSpec := { name := "fnExactMirrorCircle", fn := fun _ => fun
  | [d] => { results := [.lit (.bool false)], args := [d] }
  | _ => none }
def FnExactMirrorCircleWrongFalsely : Prop := fnExactMirrorCircleRow.holds Try.pinned (OpenSpec.ofChange fnExactMirrorCircleWrong)

/-- 'laws.FnExactSpinCircle': WHATEVER THE INPUT: true; the input reads as it did. -/
def fnExactSpinCircleSpec : ChangeSpec := { name := "fnExactSpinCircle", fn := fun _ => fun
  | [d1, d2] => { results := [.lit (.bool true)], args := [d1, d2] }
  | _ => none }
def fnExactSpinCircleRow : OpenClaim := { program := "ytdoikeglaolipaa", sum := "592deb3bad3f2c745dec8ebae87e23233f64f65b94b465a0194c247b4e64b82e", func := "loop.example/g01270/laws.FnExactSpinCircle", spec := "fnExactSpinCircle", unfollowed := true, recurses := true, apart := false }
def FnExactSpinCircleSaid : Prop := fnExactSpinCircleRow.holds Try.pinned (OpenSpec.ofChange fnExactSpinCircleSpec)

/-- ITS FALSE NEIGHBOUR: 'it returns false'. Refute it at one input. -/
def fnExactSpinCircleWrong : ChangeSpec := { name := "fnExactSpinCircle", fn := fun _ => fun
  | [d1, d2] => { results := [.lit (.bool false)], args := [d1, d2] }
  | _ => none }
def FnExactSpinCircleWrongFalsely : Prop := fnExactSpinCircleRow.holds Try.pinned (OpenSpec.ofChange fnExactSpinCircleWrong)

/-- 'laws.FnExactBackCircle': WHATEVER THE INPUT: true; the input reads as it did. -/
def fnExactBackCircleSpec : ChangeSpec := { name := "fnExactBackCircle", fn := fun _ => fun
  | [d] => { results := [.lit (.bool true)], args := [d] }
  | _ => none }
def fnExactBackCircleRow : OpenClaim := { program := "ytdoikeglaolipaa", sum := "592deb3bad3f2c745dec8ebae87e23233f64f65b94b465a0194c247b4e64b82e", func := "loop.example/g01270/laws.FnExactBackCircle", spec := "fnExactBackCircle", unfollowed := true, recurses := true, apart := false }
def FnExactBackCircleSaid : Prop := fnExactBackCircleRow.holds Try.pinned (OpenSpec.ofChange fnExactBackCircleSpec)

/-- ITS FALSE NEIGHBOUR: 'it returns false'. Refute it at one input. -/
def fnExactBackCircleWrong : ChangeSpec := { name := "fnExactBackCircle", fn := fun _ => fun
  | [d] => { results := [.lit (.bool false)], args := [d] }
  | _ => none }
def FnExactBackCircleWrongFalsely : Prop := fnExactBackCircleRow.holds Try.pinned (OpenSpec.ofChange fnExactBackCircleWrong)

/- THE SECOND FORM. 'bulk': how many values and letters a reading holds, each counted each time it is reached (what is shared counts as often as it is met; a slice's spare places count too). A statement '..UptoSaid' is the law's where the arguments, and the package variables that the reading takes, are together of bulk at most 1048576: NARROWER than '..Said'. Prove '..Said' where nothing that the law and all that it calls make is longer than what came in: it says more and counts as full. Else prove '..UptoSaid'. A law counts once. -/
mutual
def uptoBulk {H : Type} : DataW H → Nat
  | .lit (.string bytes) => bytes.length + 1
  | .lit _ => 1
  | .nil => 1
  | .ptr d => uptoBulk d + 1
  | .slice elems spare => uptoBulkAll elems + uptoBulkAll spare + 1
  | .agg parts => uptoBulkAll parts + 1
  | .iface _ d => uptoBulk d + 1
  | .map entries => uptoBulkEntries entries + 1
  | .held _ => 1
def uptoBulkAll {H : Type} : List (DataW H) → Nat
  | [] => 0
  | d :: r => uptoBulk d + uptoBulkAll r
def uptoBulkEntries {H : Type} : List (Lit × DataW H) → Nat
  | [] => 0
  | x :: r => uptoBulkEntry x + uptoBulkEntries r
def uptoBulkEntry {H : Type} : Lit × DataW H → Nat
  | (.string bytes, d) => bytes.length + uptoBulk d + 1
  | (_, d) => uptoBulk d + 1
 end
def uptoSmall : (H : Type) → List (DataW H) → Bool := fun _ ds => decide (uptoBulkAll ds ≤ 1048576)
def OpenSpec.upto (s : _root_.Go.ChangeSpec) : _root_.Go.OpenSpec := { _root_.Go.OpenSpec.ofChange s with cond := some uptoSmall }

/-- 'laws.FnExactCircleAfter', WHERE WHAT IT READS IS OF BULK AT MOST 1048576: true; the input reads as it did. -/
def fnExactCircleAfterUptoRow : OpenClaim := { program := "ytdoikeglaolipaa", sum := "592deb3bad3f2c745dec8ebae87e23233f64f65b94b465a0194c247b4e64b82e", func := "loop.example/g01270/laws.FnExactCircleAfter", spec := "fnExactCircleAfter", unfollowed := true, recurses := true, apart := false, narrowed := true }
def FnExactCircleAfterUptoSaid : Prop := fnExactCircleAfterUptoRow.holds Try.pinned (OpenSpec.upto fnExactCircleAfterSpec)

/-- 'laws.FnExactAntsAround', WHERE WHAT IT READS IS OF BULK AT MOST 1048576: true; the input reads as it did. -/
def fnExactAntsAroundUptoRow : OpenClaim := { program := "ytdoikeglaolipaa", sum := "592deb3bad3f2c745dec8ebae87e23233f64f65b94b465a0194c247b4e64b82e", func := "loop.example/g01270/laws.FnExactAntsAround", spec := "fnExactAntsAround", unfollowed := true, recurses := true, apart := false, narrowed := true }
def FnExactAntsAroundUptoSaid : Prop := fnExactAntsAroundUptoRow.holds Try.pinned (OpenSpec.upto fnExactAntsAroundSpec)

/-- 'laws.FnExactWayAround', WHERE WHAT IT READS IS OF BULK AT MOST 1048576: true; the input reads as it did. -/
def fnExactWayAroundUptoRow : OpenClaim := { program := "ytdoikeglaolipaa", sum := "592deb3bad3f2c745dec8ebae87e23233f64f65b94b465a0194c247b4e64b82e", func := "loop.example/g01270/laws.FnExactWayAround", spec := "fnExactWayAround", unfollowed := true, recurses := true, apart := false, narrowed := true }
def FnExactWayAroundUptoSaid : Prop := fnExactWayAroundUptoRow.holds Try.pinned (OpenSpec.upto fnExactWayAroundSpec)

/-- 'laws.FnExactLooksSameAfter', WHERE WHAT IT READS IS OF BULK AT MOST 1048576: true; the input reads as it did. -/
def fnExactLooksSameAfterUptoRow : OpenClaim := { program := "ytdoikeglaolipaa", sum := "592deb3bad3f2c745dec8ebae87e23233f64f65b94b465a0194c247b4e64b82e", func := "loop.example/g01270/laws.FnExactLooksSameAfter", spec := "fnExactLooksSameAfter", unfollowed := true, recurses := true, apart := false, narrowed := true }
def FnExactLooksSameAfterUptoSaid : Prop := fnExactLooksSameAfterUptoRow.holds Try.pinned (OpenSpec.upto fnExactLooksSameAfterSpec)

/-- 'laws.FnExactComesBackAfter', WHERE WHAT IT READS IS OF BULK AT MOST 1048576: true; the input reads as it did. -/
def fnExactComesBackAfterUptoRow : OpenClaim := { program := "ytdoikeglaolipaa", sum := "592deb3bad3f2c745dec8ebae87e23233f64f65b94b465a0194c247b4e64b82e", func := "loop.example/g01270/laws.FnExactComesBackAfter", spec := "fnExactComesBackAfter", unfollowed := true, recurses := true, apart := false, narrowed := true }
def FnExactComesBackAfterUptoSaid : Prop := fnExactComesBackAfterUptoRow.holds Try.pinned (OpenSpec.upto fnExactComesBackAfterSpec)

/-- 'laws.FnExactMirrorCircle', WHERE WHAT IT READS IS OF BULK AT MOST 1048576: true; the input reads as it did. -/
def fnExactMirrorCircleUptoRow : OpenClaim := { program := "ytdoikeglaolipaa", sum := "592deb3bad3f2c745dec8ebae87e23233f64f65b94b465a0194c247b4e64b82e", func := "loop.example/g01270/laws.FnExactMirrorCircle", spec := "fnExactMirrorCircle", unfollowed := true, recurses := true, apart := false, narrowed := true }
def FnExactMirrorCircleUptoSaid : Prop := fnExactMirrorCircleUptoRow.holds Try.pinned (OpenSpec.upto fnExactMirrorCircleSpec)

/-- 'laws.FnExactSpinCircle', WHERE WHAT IT READS IS OF BULK AT MOST 1048576: true; the input reads as it did. -/
def fnExactSpinCircleUptoRow : OpenClaim := { program := "ytdoikeglaolipaa", sum := "592deb3bad3f2c745dec8ebae87e23233f64f65b94b465a0194c247b4e64b82e", func := "loop.example/g01270/laws.FnExactSpinCircle", spec := "fnExactSpinCircle", unfollowed := true, recurses := true, apart := false, narrowed := true }
def FnExactSpinCircleUptoSaid : Prop := fnExactSpinCircleUptoRow.holds Try.pinned (OpenSpec.upto fnExactSpinCircleSpec)

/-- 'laws.FnExactBackCircle', WHERE WHAT IT READS IS OF BULK AT MOST 1048576: true; the input reads as it did. -/
def fnExactBackCircleUptoRow : OpenClaim := { program := "ytdoikeglaolipaa", sum := "592deb3bad3f2c745dec8ebae87e23233f64f65b94b465a0194c247b4e64b82e", func := "loop.example/g01270/laws.FnExactBackCircle", spec := "fnExactBackCircle", unfollowed := true, recurses := true, apart := false, narrowed := true }
def FnExactBackCircleUptoSaid : Prop := fnExactBackCircleUptoRow.holds Try.pinned (OpenSpec.upto fnExactBackCircleSpec)

end Rows
end Go.Proofs.Ytdoikeglaolipaa
