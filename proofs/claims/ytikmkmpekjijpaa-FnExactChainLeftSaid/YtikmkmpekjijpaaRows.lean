/-
  No cell of these rows narrows 'for every input' (looked for: loops, veiled, ifaces, maps, wideKeys, modest, calm, conditions, laid).
  DERIVED. THE GIVEN ROWS OF THIS SEAT. 16 by the template 'for every input the law returns true; each argument reads behind the call as it read before'; 0 by the template 'total and deterministic' (their statements: YtikmkmpekjijpaaTotals.lean).
  GIVEN WITH THE SEED: the statements are not yours to turn. If you find one false, say at which input.
  Laid BY PROGRAM, IN A SANDBOX (cutbox-rows.mjs): the forced cells as the released guide's own fill.sh prints them over the translation 766ded9888bc6ba5… (all of the seat's roots in one cut). By AI agents, Wed Nov 11 2026. No macro, syntax, notation, axiom, sorry.
-/
import Derived.Test.YtikmkmpekjijpaaChecked
import GoSem.Claim
import GoSem.ClaimJoined
import GoSem.ClaimMapViews
import Derived.JoinedTies
import Derived.KernelRfl
namespace Go.Proofs.Ytikmkmpekjijpaa
/- THE CELL 'sum', in the pinned program and in every row, IS THE sha256 OF THE DUMP (.gsa) THAT YtikmkmpekjijpaaProg.lean LOADS. Nothing in Lean hashes anything: it is a label: what it is worth is what the hold of that sum in a sandbox is worth. -/
noncomputable def Try.pinned : Pinned := { name := "ytikmkmpekjijpaa", sum := "766ded9888bc6ba550ee4a9bb763327892912e0f9d0a1b4704457ed13edb1365", checked := Try.checked }
namespace Rows
def none {H : Type} : Left H := { results := [], args := [] }

/-- 'laws.FnExactIsPace': WHATEVER THE INPUT: true; the input reads as it did. -/
def fnExactIsPaceSpec : ChangeSpec := { name := "fnExactIsPace", fn := fun _ => fun
  | [d] => { results := [.lit (.bool true)], args := [d] }
  | _ => none }
def fnExactIsPaceRow : OpenClaim := { program := "ytikmkmpekjijpaa", sum := "766ded9888bc6ba550ee4a9bb763327892912e0f9d0a1b4704457ed13edb1365", func := "loop.example/g01270/laws.FnExactIsPace", spec := "fnExactIsPace", apart := false }
def FnExactIsPaceSaid : Prop := fnExactIsPaceRow.holds Try.pinned (OpenSpec.ofChange fnExactIsPaceSpec)

/-- ITS FALSE NEIGHBOUR: 'it returns false'. Refute it at one input. -/
def fnExactIsPaceWrong : ChangeSpec := { name := "fnExactIsPace", fn := fun _ => fun
  | [d] => { results := [.lit (.bool false)], args := [d] }
  | _ => none }
def FnExactIsPaceWrongFalsely : Prop := fnExactIsPaceRow.holds Try.pinned (OpenSpec.ofChange fnExactIsPaceWrong)

/-- 'laws.FnExactClack': WHATEVER THE INPUT: true; the input reads as it did. -/
def fnExactClackSpec : ChangeSpec := { name := "fnExactClack", fn := fun _ => fun
  | [d1, d2, d3, d4] => { results := [.lit (.bool true)], args := [d1, d2, d3, d4] }
  | _ => none }
def fnExactClackRow : OpenClaim := { program := "ytikmkmpekjijpaa", sum := "766ded9888bc6ba550ee4a9bb763327892912e0f9d0a1b4704457ed13edb1365", func := "loop.example/g01270/laws.FnExactClack", spec := "fnExactClack", unfollowed := true, recurses := true, apart := false }
def FnExactClackSaid : Prop := fnExactClackRow.holds Try.pinned (OpenSpec.ofChange fnExactClackSpec)

/-- ITS FALSE NEIGHBOUR: 'it returns false'. Refute it at one input. -/
def fnExactClackWrong : ChangeSpec := { name := "fnExactClack", fn := fun _ => fun
  | [d1, d2, d3, d4] => { results := [.lit (.bool false)], args := [d1, d2, d3, d4] }
  | _ => none }
def FnExactClackWrongFalsely : Prop := fnExactClackRow.holds Try.pinned (OpenSpec.ofChange fnExactClackWrong)

/-- 'laws.FnExactCommonPace': WHATEVER THE INPUT: true; the input reads as it did. -/
def fnExactCommonPaceSpec : ChangeSpec := { name := "fnExactCommonPace", fn := fun _ => fun
  | [d1, d2, d3, d4] => { results := [.lit (.bool true)], args := [d1, d2, d3, d4] }
  | _ => none }
def fnExactCommonPaceRow : OpenClaim := { program := "ytikmkmpekjijpaa", sum := "766ded9888bc6ba550ee4a9bb763327892912e0f9d0a1b4704457ed13edb1365", func := "loop.example/g01270/laws.FnExactCommonPace", spec := "fnExactCommonPace", unfollowed := true, recurses := true, apart := false }
def FnExactCommonPaceSaid : Prop := fnExactCommonPaceRow.holds Try.pinned (OpenSpec.ofChange fnExactCommonPaceSpec)

/-- ITS FALSE NEIGHBOUR: 'it returns false'. Refute it at one input. -/
def fnExactCommonPaceWrong : ChangeSpec := { name := "fnExactCommonPace", fn := fun _ => fun
  | [d1, d2, d3, d4] => { results := [.lit (.bool false)], args := [d1, d2, d3, d4] }
  | _ => none }
def FnExactCommonPaceWrongFalsely : Prop := fnExactCommonPaceRow.holds Try.pinned (OpenSpec.ofChange fnExactCommonPaceWrong)

/-- 'laws.FnExactPushOf': WHATEVER THE INPUT: true; the input reads as it did. -/
def fnExactPushOfSpec : ChangeSpec := { name := "fnExactPushOf", fn := fun _ => fun
  | [d1, d2, d3, d4] => { results := [.lit (.bool true)], args := [d1, d2, d3, d4] }
  | _ => none }
def fnExactPushOfRow : OpenClaim := { program := "ytikmkmpekjijpaa", sum := "766ded9888bc6ba550ee4a9bb763327892912e0f9d0a1b4704457ed13edb1365", func := "loop.example/g01270/laws.FnExactPushOf", spec := "fnExactPushOf", unfollowed := true, recurses := true, apart := false }
def FnExactPushOfSaid : Prop := fnExactPushOfRow.holds Try.pinned (OpenSpec.ofChange fnExactPushOfSpec)

/-- ITS FALSE NEIGHBOUR: 'it returns false'. Refute it at one input. -/
def fnExactPushOfWrong : ChangeSpec := { name := "fnExactPushOf", fn := fun _ => fun
  | [d1, d2, d3, d4] => { results := [.lit (.bool false)], args := [d1, d2, d3, d4] }
  | _ => none }
def FnExactPushOfWrongFalsely : Prop := fnExactPushOfRow.holds Try.pinned (OpenSpec.ofChange fnExactPushOfWrong)

/-- 'laws.FnExactEnergyOf': WHATEVER THE INPUT: true; the input reads as it did. -/
def fnExactEnergyOfSpec : ChangeSpec := { name := "fnExactEnergyOf", fn := fun _ => fun
  | [d1, d2, d3, d4] => { results := [.lit (.bool true)], args := [d1, d2, d3, d4] }
  | _ => none }
def fnExactEnergyOfRow : OpenClaim := { program := "ytikmkmpekjijpaa", sum := "766ded9888bc6ba550ee4a9bb763327892912e0f9d0a1b4704457ed13edb1365", func := "loop.example/g01270/laws.FnExactEnergyOf", spec := "fnExactEnergyOf", unfollowed := true, recurses := true, apart := false }
def FnExactEnergyOfSaid : Prop := fnExactEnergyOfRow.holds Try.pinned (OpenSpec.ofChange fnExactEnergyOfSpec)

/-- ITS FALSE NEIGHBOUR: 'it returns false'. Refute it at one input. -/
def fnExactEnergyOfWrong : ChangeSpec := { name := "fnExactEnergyOf", fn := fun _ => fun
  | [d1, d2, d3, d4] => { results := [.lit (.bool false)], args := [d1, d2, d3, d4] }
  | _ => none }
def FnExactEnergyOfWrongFalsely : Prop := fnExactEnergyOfRow.holds Try.pinned (OpenSpec.ofChange fnExactEnergyOfWrong)

/-- 'laws.FnExactCountClacks': WHATEVER THE INPUT: true; the input reads as it did. -/
def fnExactCountClacksSpec : ChangeSpec := { name := "fnExactCountClacks", fn := fun _ => fun
  | [d1, d2] => { results := [.lit (.bool true)], args := [d1, d2] }
  | _ => none }
def fnExactCountClacksRow : OpenClaim := { program := "ytikmkmpekjijpaa", sum := "766ded9888bc6ba550ee4a9bb763327892912e0f9d0a1b4704457ed13edb1365", func := "loop.example/g01270/laws.FnExactCountClacks", spec := "fnExactCountClacks", unfollowed := true, recurses := true, apart := false }
def FnExactCountClacksSaid : Prop := fnExactCountClacksRow.holds Try.pinned (OpenSpec.ofChange fnExactCountClacksSpec)

/-- ITS FALSE NEIGHBOUR: 'it returns false'. Refute it at one input. -/
def fnExactCountClacksWrong : ChangeSpec := { name := "fnExactCountClacks", fn := fun _ => fun
  | [d1, d2] => { results := [.lit (.bool false)], args := [d1, d2] }
  | _ => none }
def FnExactCountClacksWrongFalsely : Prop := fnExactCountClacksRow.holds Try.pinned (OpenSpec.ofChange fnExactCountClacksWrong)

/-- 'laws.FnExactClackPaces': WHATEVER THE INPUT: true; the input reads as it did. -/
def fnExactClackPacesSpec : ChangeSpec := { name := "fnExactClackPaces", fn := fun _ => fun
  | [d1, d2] => { results := [.lit (.bool true)], args := [d1, d2] }
  | _ => none }
def fnExactClackPacesRow : OpenClaim := { program := "ytikmkmpekjijpaa", sum := "766ded9888bc6ba550ee4a9bb763327892912e0f9d0a1b4704457ed13edb1365", func := "loop.example/g01270/laws.FnExactClackPaces", spec := "fnExactClackPaces", unfollowed := true, recurses := true, apart := false }
def FnExactClackPacesSaid : Prop := fnExactClackPacesRow.holds Try.pinned (OpenSpec.ofChange fnExactClackPacesSpec)

/-- ITS FALSE NEIGHBOUR: 'it returns false'. Refute it at one input. -/
def fnExactClackPacesWrong : ChangeSpec := { name := "fnExactClackPaces", fn := fun _ => fun
  | [d1, d2] => { results := [.lit (.bool false)], args := [d1, d2] }
  | _ => none }
def FnExactClackPacesWrongFalsely : Prop := fnExactClackPacesRow.holds Try.pinned (OpenSpec.ofChange fnExactClackPacesWrong)

/-- 'laws.FnExactLastClack': WHATEVER THE INPUT: true; the input reads as it did. -/
def fnExactLastClackSpec : ChangeSpec := { name := "fnExactLastClack", fn := fun _ => fun
  | [d1, d2] => { results := [.lit (.bool true)], args := [d1, d2] }
  | _ => none }
def fnExactLastClackRow : OpenClaim := { program := "ytikmkmpekjijpaa", sum := "766ded9888bc6ba550ee4a9bb763327892912e0f9d0a1b4704457ed13edb1365", func := "loop.example/g01270/laws.FnExactLastClack", spec := "fnExactLastClack", unfollowed := true, recurses := true, apart := false }
def FnExactLastClackSaid : Prop := fnExactLastClackRow.holds Try.pinned (OpenSpec.ofChange fnExactLastClackSpec)

/-- ITS FALSE NEIGHBOUR: 'it returns false'. Refute it at one input. -/
def fnExactLastClackWrong : ChangeSpec := { name := "fnExactLastClack", fn := fun _ => fun
  | [d1, d2] => { results := [.lit (.bool false)], args := [d1, d2] }
  | _ => none }
def FnExactLastClackWrongFalsely : Prop := fnExactLastClackRow.holds Try.pinned (OpenSpec.ofChange fnExactLastClackWrong)

/-- 'laws.FnExactChainPace': WHATEVER THE INPUT: true; the input reads as it did. -/
def fnExactChainPaceSpec : ChangeSpec := { name := "fnExactChainPace", fn := fun _ => fun
  | [d] => { results := [.lit (.bool true)], args := [d] }
  | _ => none }
def fnExactChainPaceRow : OpenClaim := { program := "ytikmkmpekjijpaa", sum := "766ded9888bc6ba550ee4a9bb763327892912e0f9d0a1b4704457ed13edb1365", func := "loop.example/g01270/laws.FnExactChainPace", spec := "fnExactChainPace", unfollowed := true, recurses := true, apart := false }
def FnExactChainPaceSaid : Prop := fnExactChainPaceRow.holds Try.pinned (OpenSpec.ofChange fnExactChainPaceSpec)

/-- ITS FALSE NEIGHBOUR: 'it returns false'. Refute it at one input. -/
def fnExactChainPaceWrong : ChangeSpec := { name := "fnExactChainPace", fn := fun _ => fun
  | [d] => { results := [.lit (.bool false)], args := [d] }
  | _ => none }
def FnExactChainPaceWrongFalsely : Prop := fnExactChainPaceRow.holds Try.pinned (OpenSpec.ofChange fnExactChainPaceWrong)

/-- 'laws.FnExactChainLeft': WHATEVER THE INPUT: true; the input reads as it did. -/
def fnExactChainLeftSpec : ChangeSpec := { name := "fnExactChainLeft", fn := fun _ => fun
  | [d] => { results := [.lit (.bool true)], args := [d] }
  | _ => none }
def fnExactChainLeftRow : OpenClaim := { program := "ytikmkmpekjijpaa", sum := "766ded9888bc6ba550ee4a9bb763327892912e0f9d0a1b4704457ed13edb1365", func := "loop.example/g01270/laws.FnExactChainLeft", spec := "fnExactChainLeft", unfollowed := true, recurses := true, apart := false }
def FnExactChainLeftSaid : Prop := fnExactChainLeftRow.holds Try.pinned (OpenSpec.ofChange fnExactChainLeftSpec)

/-- ITS FALSE NEIGHBOUR: 'it returns false'. Refute it at one input. -/
def fnExactChainLeftWrong : ChangeSpec := { name := "fnExactChainLeft", fn := fun _ => fun
  | [d] => { results := [.lit (.bool false)], args := [d] }
  | _ => none }
def FnExactChainLeftWrongFalsely : Prop := fnExactChainLeftRow.holds Try.pinned (OpenSpec.ofChange fnExactChainLeftWrong)

/-- 'laws.FnExactBestMiddle': WHATEVER THE INPUT: true; the input reads as it did. -/
def fnExactBestMiddleSpec : ChangeSpec := { name := "fnExactBestMiddle", fn := fun _ => fun
  | [d1, d2] => { results := [.lit (.bool true)], args := [d1, d2] }
  | _ => none }
def fnExactBestMiddleRow : OpenClaim := { program := "ytikmkmpekjijpaa", sum := "766ded9888bc6ba550ee4a9bb763327892912e0f9d0a1b4704457ed13edb1365", func := "loop.example/g01270/laws.FnExactBestMiddle", spec := "fnExactBestMiddle", unfollowed := true, recurses := true, apart := false }
def FnExactBestMiddleSaid : Prop := fnExactBestMiddleRow.holds Try.pinned (OpenSpec.ofChange fnExactBestMiddleSpec)

/-- ITS FALSE NEIGHBOUR: 'it returns false'. Refute it at one input. -/
def fnExactBestMiddleWrong : ChangeSpec := { name := "fnExactBestMiddle", fn := fun _ => fun
  | [d1, d2] => { results := [.lit (.bool false)], args := [d1, d2] }
  | _ => none }
def FnExactBestMiddleWrongFalsely : Prop := fnExactBestMiddleRow.holds Try.pinned (OpenSpec.ofChange fnExactBestMiddleWrong)

/-- 'laws.FnExactBestMiddles': WHATEVER THE INPUT: true; the input reads as it did. -/
def fnExactBestMiddlesSpec : ChangeSpec := { name := "fnExactBestMiddles", fn := fun _ => fun
  | [d1, d2] => { results := [.lit (.bool true)], args := [d1, d2] }
  | _ => none }
def fnExactBestMiddlesRow : OpenClaim := { program := "ytikmkmpekjijpaa", sum := "766ded9888bc6ba550ee4a9bb763327892912e0f9d0a1b4704457ed13edb1365", func := "loop.example/g01270/laws.FnExactBestMiddles", spec := "fnExactBestMiddles", unfollowed := true, recurses := true, apart := false }
def FnExactBestMiddlesSaid : Prop := fnExactBestMiddlesRow.holds Try.pinned (OpenSpec.ofChange fnExactBestMiddlesSpec)

/-- ITS FALSE NEIGHBOUR: 'it returns false'. Refute it at one input. -/
def fnExactBestMiddlesWrong : ChangeSpec := { name := "fnExactBestMiddles", fn := fun _ => fun
  | [d1, d2] => { results := [.lit (.bool false)], args := [d1, d2] }
  | _ => none }
def FnExactBestMiddlesWrongFalsely : Prop := fnExactBestMiddlesRow.holds Try.pinned (OpenSpec.ofChange fnExactBestMiddlesWrong)

/-- 'laws.FnExactHeightAfter': WHATEVER THE INPUT: true; the input reads as it did. -/
def fnExactHeightAfterSpec : ChangeSpec := { name := "fnExactHeightAfter", fn := fun _ => fun
  | [d1, d2] => { results := [.lit (.bool true)], args := [d1, d2] }
  | _ => none }
def fnExactHeightAfterRow : OpenClaim := { program := "ytikmkmpekjijpaa", sum := "766ded9888bc6ba550ee4a9bb763327892912e0f9d0a1b4704457ed13edb1365", func := "loop.example/g01270/laws.FnExactHeightAfter", spec := "fnExactHeightAfter", apart := false }
def FnExactHeightAfterSaid : Prop := fnExactHeightAfterRow.holds Try.pinned (OpenSpec.ofChange fnExactHeightAfterSpec)

/-- ITS FALSE NEIGHBOUR: 'it returns false'. Refute it at one input. -/
def fnExactHeightAfterWrong : ChangeSpec := { name := "fnExactHeightAfter", fn := fun _ => fun
  | [d1, d2] => { results := [.lit (.bool false)], args := [d1, d2] }
  | _ => none }
def FnExactHeightAfterWrongFalsely : Prop := fnExactHeightAfterRow.holds Try.pinned (OpenSpec.ofChange fnExactHeightAfterWrong)

/-- 'laws.FnExactBouncesBelow': WHATEVER THE INPUT: true; the input reads as it did. -/
def fnExactBouncesBelowSpec : ChangeSpec := { name := "fnExactBouncesBelow", fn := fun _ => fun
  | [d1, d2] => { results := [.lit (.bool true)], args := [d1, d2] }
  | _ => none }
def fnExactBouncesBelowRow : OpenClaim := { program := "ytikmkmpekjijpaa", sum := "766ded9888bc6ba550ee4a9bb763327892912e0f9d0a1b4704457ed13edb1365", func := "loop.example/g01270/laws.FnExactBouncesBelow", spec := "fnExactBouncesBelow", apart := false }
def FnExactBouncesBelowSaid : Prop := fnExactBouncesBelowRow.holds Try.pinned (OpenSpec.ofChange fnExactBouncesBelowSpec)

/-- ITS FALSE NEIGHBOUR: 'it returns false'. Refute it at one input. -/
def fnExactBouncesBelowWrong : ChangeSpec := { name := "fnExactBouncesBelow", fn := fun _ => fun
  | [d1, d2] => { results := [.lit (.bool false)], args := [d1, d2] }
  | _ => none }
def FnExactBouncesBelowWrongFalsely : Prop := fnExactBouncesBelowRow.holds Try.pinned (OpenSpec.ofChange fnExactBouncesBelowWrong)

/-- 'laws.FnExactWayOfBounces': WHATEVER THE INPUT: true; the input reads as it did. -/
def fnExactWayOfBouncesSpec : ChangeSpec := { name := "fnExactWayOfBounces", fn := fun _ => fun
  | [d1, d2] => { results := [.lit (.bool true)], args := [d1, d2] }
  | _ => none }
def fnExactWayOfBouncesRow : OpenClaim := { program := "ytikmkmpekjijpaa", sum := "766ded9888bc6ba550ee4a9bb763327892912e0f9d0a1b4704457ed13edb1365", func := "loop.example/g01270/laws.FnExactWayOfBounces", spec := "fnExactWayOfBounces", unfollowed := true, recurses := true, apart := false }
def FnExactWayOfBouncesSaid : Prop := fnExactWayOfBouncesRow.holds Try.pinned (OpenSpec.ofChange fnExactWayOfBouncesSpec)

/-- ITS FALSE NEIGHBOUR: 'it returns false'. Refute it at one input. -/
def fnExactWayOfBouncesWrong : ChangeSpec := { name := "fnExactWayOfBounces", fn := fun _ => fun
  | [d1, d2] => { results := [.lit (.bool false)], args := [d1, d2] }
  | _ => none }
def FnExactWayOfBouncesWrongFalsely : Prop := fnExactWayOfBouncesRow.holds Try.pinned (OpenSpec.ofChange fnExactWayOfBouncesWrong)

/-- 'laws.FnExactCradleAfter': WHATEVER THE INPUT: true; the input reads as it did. -/
def fnExactCradleAfterSpec : ChangeSpec := { name := "fnExactCradleAfter", fn := fun _ => fun
  | [d1, d2] => { results := [.lit (.bool true)], args := [d1, d2] }
  | _ => none }
def fnExactCradleAfterRow : OpenClaim := { program := "ytikmkmpekjijpaa", sum := "766ded9888bc6ba550ee4a9bb763327892912e0f9d0a1b4704457ed13edb1365", func := "loop.example/g01270/laws.FnExactCradleAfter", spec := "fnExactCradleAfter", apart := false }
def FnExactCradleAfterSaid : Prop := fnExactCradleAfterRow.holds Try.pinned (OpenSpec.ofChange fnExactCradleAfterSpec)

/-- ITS FALSE NEIGHBOUR: 'it returns false'. Refute it at one input. -/
def fnExactCradleAfterWrong : ChangeSpec := { name := "fnExactCradleAfter", fn := fun _ => fun
  | [d1, d2] => { results := [.lit (.bool false)], args := [d1, d2] }
  | _ => none }
def FnExactCradleAfterWrongFalsely : Prop := fnExactCradleAfterRow.holds Try.pinned (OpenSpec.ofChange fnExactCradleAfterWrong)

/- THE SECOND FORM. 'bulk': how many values and letters a reading holds, each counted each time it is reached (what is shared counts as often as it is met; a slice's spare places count too). A statement '..UptoSaid' is the law's where the arguments, and the package variables that the reading takes, are together of bulk at most 1048576: NARROWER than '..Said'. Prove '..Said' where nothing that the law and all that it calls make is longer than what came in: it says more and counts as full. Else prove '..UptoSaid'. A law counts once. -/
mutual
def uptoBulk {H : Type} : DataW H → Nat
  | .lit (.string bytes) => bytes.length + 1
  | .lit _ => 1
  | .nil => 1
  | .ptr d => uptoBulk d + 1
  | .slice elems spare => uptoBulkAll elems + uptoBulkAll spare + 1
  | .agg parts => uptoBulkAll parts + 1
  | .iface _ d => uptoBulk d + 1
  | .map entries => uptoBulkEntries entries + 1
  | .held _ => 1
def uptoBulkAll {H : Type} : List (DataW H) → Nat
  | [] => 0
  | d :: r => uptoBulk d + uptoBulkAll r
def uptoBulkEntries {H : Type} : List (Lit × DataW H) → Nat
  | [] => 0
  | x :: r => uptoBulkEntry x + uptoBulkEntries r
def uptoBulkEntry {H : Type} : Lit × DataW H → Nat
  | (.string bytes, d) => bytes.length + uptoBulk d + 1
  | (_, d) => uptoBulk d + 1
 end
def uptoSmall : (H : Type) → List (DataW H) → Bool := fun _ ds => decide (uptoBulkAll ds ≤ 1048576)
def OpenSpec.upto (s : _root_.Go.ChangeSpec) : _root_.Go.OpenSpec := { _root_.Go.OpenSpec.ofChange s with cond := some uptoSmall }

/-- 'laws.FnExactIsPace', WHERE WHAT IT READS IS OF BULK AT MOST 1048576: true; the input reads as it did. -/
def fnExactIsPaceUptoRow : OpenClaim := { program := "ytikmkmpekjijpaa", sum := "766ded9888bc6ba550ee4a9bb763327892912e0f9d0a1b4704457ed13edb1365", func := "loop.example/g01270/laws.FnExactIsPace", spec := "fnExactIsPace", apart := false, narrowed := true }
def FnExactIsPaceUptoSaid : Prop := fnExactIsPaceUptoRow.holds Try.pinned (OpenSpec.upto fnExactIsPaceSpec)

/-- 'laws.FnExactClack', WHERE WHAT IT READS IS OF BULK AT MOST 1048576: true; the input reads as it did. -/
def fnExactClackUptoRow : OpenClaim := { program := "ytikmkmpekjijpaa", sum := "766ded9888bc6ba550ee4a9bb763327892912e0f9d0a1b4704457ed13edb1365", func := "loop.example/g01270/laws.FnExactClack", spec := "fnExactClack", unfollowed := true, recurses := true, apart := false, narrowed := true }
def FnExactClackUptoSaid : Prop := fnExactClackUptoRow.holds Try.pinned (OpenSpec.upto fnExactClackSpec)

/-- 'laws.FnExactCommonPace', WHERE WHAT IT READS IS OF BULK AT MOST 1048576: true; the input reads as it did. -/
def fnExactCommonPaceUptoRow : OpenClaim := { program := "ytikmkmpekjijpaa", sum := "766ded9888bc6ba550ee4a9bb763327892912e0f9d0a1b4704457ed13edb1365", func := "loop.example/g01270/laws.FnExactCommonPace", spec := "fnExactCommonPace", unfollowed := true, recurses := true, apart := false, narrowed := true }
def FnExactCommonPaceUptoSaid : Prop := fnExactCommonPaceUptoRow.holds Try.pinned (OpenSpec.upto fnExactCommonPaceSpec)

/-- 'laws.FnExactPushOf', WHERE WHAT IT READS IS OF BULK AT MOST 1048576: true; the input reads as it did. -/
def fnExactPushOfUptoRow : OpenClaim := { program := "ytikmkmpekjijpaa", sum := "766ded9888bc6ba550ee4a9bb763327892912e0f9d0a1b4704457ed13edb1365", func := "loop.example/g01270/laws.FnExactPushOf", spec := "fnExactPushOf", unfollowed := true, recurses := true, apart := false, narrowed := true }
def FnExactPushOfUptoSaid : Prop := fnExactPushOfUptoRow.holds Try.pinned (OpenSpec.upto fnExactPushOfSpec)

/-- 'laws.FnExactEnergyOf', WHERE WHAT IT READS IS OF BULK AT MOST 1048576: true; the input reads as it did. -/
def fnExactEnergyOfUptoRow : OpenClaim := { program := "ytikmkmpekjijpaa", sum := "766ded9888bc6ba550ee4a9bb763327892912e0f9d0a1b4704457ed13edb1365", func := "loop.example/g01270/laws.FnExactEnergyOf", spec := "fnExactEnergyOf", unfollowed := true, recurses := true, apart := false, narrowed := true }
def FnExactEnergyOfUptoSaid : Prop := fnExactEnergyOfUptoRow.holds Try.pinned (OpenSpec.upto fnExactEnergyOfSpec)

/-- 'laws.FnExactCountClacks', WHERE WHAT IT READS IS OF BULK AT MOST 1048576: true; the input reads as it did. -/
def fnExactCountClacksUptoRow : OpenClaim := { program := "ytikmkmpekjijpaa", sum := "766ded9888bc6ba550ee4a9bb763327892912e0f9d0a1b4704457ed13edb1365", func := "loop.example/g01270/laws.FnExactCountClacks", spec := "fnExactCountClacks", unfollowed := true, recurses := true, apart := false, narrowed := true }
def FnExactCountClacksUptoSaid : Prop := fnExactCountClacksUptoRow.holds Try.pinned (OpenSpec.upto fnExactCountClacksSpec)

/-- 'laws.FnExactClackPaces', WHERE WHAT IT READS IS OF BULK AT MOST 1048576: true; the input reads as it did. -/
def fnExactClackPacesUptoRow : OpenClaim := { program := "ytikmkmpekjijpaa", sum := "766ded9888bc6ba550ee4a9bb763327892912e0f9d0a1b4704457ed13edb1365", func := "loop.example/g01270/laws.FnExactClackPaces", spec := "fnExactClackPaces", unfollowed := true, recurses := true, apart := false, narrowed := true }
def FnExactClackPacesUptoSaid : Prop := fnExactClackPacesUptoRow.holds Try.pinned (OpenSpec.upto fnExactClackPacesSpec)

/-- 'laws.FnExactLastClack', WHERE WHAT IT READS IS OF BULK AT MOST 1048576: true; the input reads as it did. -/
def fnExactLastClackUptoRow : OpenClaim := { program := "ytikmkmpekjijpaa", sum := "766ded9888bc6ba550ee4a9bb763327892912e0f9d0a1b4704457ed13edb1365", func := "loop.example/g01270/laws.FnExactLastClack", spec := "fnExactLastClack", unfollowed := true, recurses := true, apart := false, narrowed := true }
def FnExactLastClackUptoSaid : Prop := fnExactLastClackUptoRow.holds Try.pinned (OpenSpec.upto fnExactLastClackSpec)

/-- 'laws.FnExactChainPace', WHERE WHAT IT READS IS OF BULK AT MOST 1048576: true; the input reads as it did. -/
def fnExactChainPaceUptoRow : OpenClaim := { program := "ytikmkmpekjijpaa", sum := "766ded9888bc6ba550ee4a9bb763327892912e0f9d0a1b4704457ed13edb1365", func := "loop.example/g01270/laws.FnExactChainPace", spec := "fnExactChainPace", unfollowed := true, recurses := true, apart := false, narrowed := true }
def FnExactChainPaceUptoSaid : Prop := fnExactChainPaceUptoRow.holds Try.pinned (OpenSpec.upto fnExactChainPaceSpec)

/-- 'laws.FnExactChainLeft', WHERE WHAT IT READS IS OF BULK AT MOST 1048576: true; the input reads as it did. -/
def fnExactChainLeftUptoRow : OpenClaim := { program := "ytikmkmpekjijpaa", sum := "766ded9888bc6ba550ee4a9bb763327892912e0f9d0a1b4704457ed13edb1365", func := "loop.example/g01270/laws.FnExactChainLeft", spec := "fnExactChainLeft", unfollowed := true, recurses := true, apart := false, narrowed := true }
def FnExactChainLeftUptoSaid : Prop := fnExactChainLeftUptoRow.holds Try.pinned (OpenSpec.upto fnExactChainLeftSpec)

/-- 'laws.FnExactBestMiddle', WHERE WHAT IT READS IS OF BULK AT MOST 1048576: true; the input reads as it did. -/
def fnExactBestMiddleUptoRow : OpenClaim := { program := "ytikmkmpekjijpaa", sum := "766ded9888bc6ba550ee4a9bb763327892912e0f9d0a1b4704457ed13edb1365", func := "loop.example/g01270/laws.FnExactBestMiddle", spec := "fnExactBestMiddle", unfollowed := true, recurses := true, apart := false, narrowed := true }
def FnExactBestMiddleUptoSaid : Prop := fnExactBestMiddleUptoRow.holds Try.pinned (OpenSpec.upto fnExactBestMiddleSpec)

/-- 'laws.FnExactBestMiddles', WHERE WHAT IT READS IS OF BULK AT MOST 1048576: true; the input reads as it did. -/
def fnExactBestMiddlesUptoRow : OpenClaim := { program := "ytikmkmpekjijpaa", sum := "766ded9888bc6ba550ee4a9bb763327892912e0f9d0a1b4704457ed13edb1365", func := "loop.example/g01270/laws.FnExactBestMiddles", spec := "fnExactBestMiddles", unfollowed := true, recurses := true, apart := false, narrowed := true }
def FnExactBestMiddlesUptoSaid : Prop := fnExactBestMiddlesUptoRow.holds Try.pinned (OpenSpec.upto fnExactBestMiddlesSpec)

/-- 'laws.FnExactHeightAfter', WHERE WHAT IT READS IS OF BULK AT MOST 1048576: true; the input reads as it did. -/
def fnExactHeightAfterUptoRow : OpenClaim := { program := "ytikmkmpekjijpaa", sum := "766ded9888bc6ba550ee4a9bb763327892912e0f9d0a1b4704457ed13edb1365", func := "loop.example/g01270/laws.FnExactHeightAfter", spec := "fnExactHeightAfter", apart := false, narrowed := true }
def FnExactHeightAfterUptoSaid : Prop := fnExactHeightAfterUptoRow.holds Try.pinned (OpenSpec.upto fnExactHeightAfterSpec)

/-- 'laws.FnExactBouncesBelow', WHERE WHAT IT READS IS OF BULK AT MOST 1048576: true; the input reads as it did. -/
def fnExactBouncesBelowUptoRow : OpenClaim := { program := "ytikmkmpekjijpaa", sum := "766ded9888bc6ba550ee4a9bb763327892912e0f9d0a1b4704457ed13edb1365", func := "loop.example/g01270/laws.FnExactBouncesBelow", spec := "fnExactBouncesBelow", apart := false, narrowed := true }
def FnExactBouncesBelowUptoSaid : Prop := fnExactBouncesBelowUptoRow.holds Try.pinned (OpenSpec.upto fnExactBouncesBelowSpec)

/-- 'laws.FnExactWayOfBounces', WHERE WHAT IT READS IS OF BULK AT MOST 1048576: true; the input reads as it did. -/
def fnExactWayOfBouncesUptoRow : OpenClaim := { program := "ytikmkmpekjijpaa", sum := "766ded9888bc6ba550ee4a9bb763327892912e0f9d0a1b4704457ed13edb1365", func := "loop.example/g01270/laws.FnExactWayOfBounces", spec := "fnExactWayOfBounces", unfollowed := true, recurses := true, apart := false, narrowed := true }
def FnExactWayOfBouncesUptoSaid : Prop := fnExactWayOfBouncesUptoRow.holds Try.pinned (OpenSpec.upto fnExactWayOfBouncesSpec)

/-- 'laws.FnExactCradleAfter', WHERE WHAT IT READS IS OF BULK AT MOST 1048576: true; the input reads as it did. -/
def fnExactCradleAfterUptoRow : OpenClaim := { program := "ytikmkmpekjijpaa", sum := "766ded9888bc6ba550ee4a9bb763327892912e0f9d0a1b4704457ed13edb1365", func := "loop.example/g01270/laws.FnExactCradleAfter", spec := "fnExactCradleAfter", apart := false, narrowed := true }
def FnExactCradleAfterUptoSaid : Prop := fnExactCradleAfterUptoRow.holds Try.pinned (OpenSpec.upto fnExactCradleAfterSpec)

end Rows
end Go.Proofs.Ytikmkmpekjijpaa
