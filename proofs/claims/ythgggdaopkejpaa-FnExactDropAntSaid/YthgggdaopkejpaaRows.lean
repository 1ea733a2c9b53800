/-
  No cell of these rows narrows 'for every input' (looked for: loops, veiled, ifaces, maps, wideKeys, modest, calm, conditions, laid).
  DERIVED. THE GIVEN ROWS OF THIS SEAT. 17 by the template 'for every input the law returns true; each argument reads behind the call as it read before'; 0 by the template 'total and deterministic' (their statements: YthgggdaopkejpaaTotals.lean).
  GIVEN WITH THE SEED: the statements are not yours to turn. If you find one false, say at which input.
  Laid BY PROGRAM, IN A SANDBOX (cutbox-rows.mjs): the forced cells as the released guide's own fill.sh prints them over the translation 6c0566912a19e013… (all of the seat's roots in one cut). By AI agents, Wed Nov 11 2026. No macro, syntax, notation, axiom, sorry.
-/
import Derived.Test.YthgggdaopkejpaaChecked
import GoSem.Claim
import GoSem.ClaimJoined
import GoSem.ClaimMapViews
import Derived.JoinedTies
import Derived.KernelRfl
namespace Go.Proofs.Ythgggdaopkejpaa
/- THE CELL 'sum', in the pinned program and in every row, IS THE sha256 OF THE DUMP (.gsa) THAT YthgggdaopkejpaaProg.lean LOADS. Nothing in Lean hashes anything: it is a label: what it is worth is what the hold of that sum in a sandbox is worth. -/
noncomputable def Try.pinned : Pinned := { name := "ythgggdaopkejpaa", sum := "6c0566912a19e013bee9a92af4ab1c25c14222cc3504647143b753315641e871", checked := Try.checked }
namespace Rows
def none {H : Type} : Left H := { results := [], args := [] }

/-- 'laws.FnGhostsPass': WHATEVER THE INPUT: true; the input reads as it did. -/
def fnGhostsPassSpec : ChangeSpec := { name := "fnGhostsPass", fn := fun _ => fun
  | [d1, d2] => { results := [.lit (.bool true)], args := [d1, d2] }
  | _ => none }
def fnGhostsPassRow : OpenClaim := { program := "ythgggdaopkejpaa", sum := "6c0566912a19e013bee9a92af4ab1c25c14222cc3504647143b753315641e871", func := "loop.example/g01270/laws.FnGhostsPass", spec := "fnGhostsPass", unfollowed := true, recurses := true, apart := false }
def FnGhostsPassSaid : Prop := fnGhostsPassRow.holds Try.pinned (OpenSpec.ofChange fnGhostsPassSpec)

/-- ITS FALSE NEIGHBOUR: 'it returns false'. Refute it at one input. -/
def fnGhostsPassWrong : ChangeSpec := { name := "fnGhostsPass", fn := fun _ => fun
  | [d1, d2] => { results := [.lit (.bool false)], args := [d1, d2] }
  | _ => none }
def FnGhostsPassWrongFalsely : Prop := fnGhostsPassRow.holds Try.pinned (OpenSpec.ofChange fnGhostsPassWrong)

/-- 'laws.FnExactIsRod': WHATEVER THE INPUT: true; the input reads as it did. -/
def fnExactIsRodSpec : ChangeSpec := { name := "fnExactIsRod", fn := fun _ => fun
  | [d] => { results := [.lit (.bool true)], args := [d] }
  | _ => none }
def fnExactIsRodRow : OpenClaim := { program := "ythgggdaopkejpaa", sum := "6c0566912a19e013bee9a92af4ab1c25c14222cc3504647143b753315641e871", func := "loop.example/g01270/laws.FnExactIsRod", spec := "fnExactIsRod", apart := false }
def FnExactIsRodSaid : Prop := fnExactIsRodRow.holds Try.pinned (OpenSpec.ofChange fnExactIsRodSpec)

/-- ITS FALSE NEIGHBOUR: 'it returns false'. Refute it at one input. -/
def fnExactIsRodWrong : ChangeSpec := { name := "fnExactIsRod", fn := fun _ => fun
  | [d] => { results := [.lit (.bool false)], args := [d] }
  | _ => none }
def FnExactIsRodWrongFalsely : Prop := fnExactIsRodRow.holds Try.pinned (OpenSpec.ofChange fnExactIsRodWrong)

/-- 'laws.FnExactRodAfter': WHATEVER THE INPUT: true; the input reads as it did. -/
def fnExactRodAfterSpec : ChangeSpec := { name := "fnExactRodAfter", fn := fun _ => fun
  | [d1, d2] => { results := [.lit (.bool true)], args := [d1, d2] }
  | _ => none }
def fnExactRodAfterRow : OpenClaim := { program := "ythgggdaopkejpaa", sum := "6c0566912a19e013bee9a92af4ab1c25c14222cc3504647143b753315641e871", func := "loop.example/g01270/laws.FnExactRodAfter", spec := "fnExactRodAfter", unfollowed := true, recurses := true, apart := false }
def FnExactRodAfterSaid : Prop := fnExactRodAfterRow.holds Try.pinned (OpenSpec.ofChange fnExactRodAfterSpec)

/-- ITS FALSE NEIGHBOUR: 'it returns false'. Refute it at one input. -/
def fnExactRodAfterWrong : ChangeSpec := { name := "fnExactRodAfter", fn := fun _ => fun
  | [d1, d2] => { results := [.lit (.bool false)], args := [d1, d2] }
  | _ => none }
def FnExactRodAfterWrongFalsely : Prop := fnExactRodAfterRow.holds Try.pinned (OpenSpec.ofChange fnExactRodAfterWrong)

/-- 'laws.FnExactPlaceAfter': WHATEVER THE INPUT: true; the input reads as it did. -/
def fnExactPlaceAfterSpec : ChangeSpec := { name := "fnExactPlaceAfter", fn := fun _ => fun
  | [d1, d2, d3] => { results := [.lit (.bool true)], args := [d1, d2, d3] }
  | _ => none }
def fnExactPlaceAfterRow : OpenClaim := { program := "ythgggdaopkejpaa", sum := "6c0566912a19e013bee9a92af4ab1c25c14222cc3504647143b753315641e871", func := "loop.example/g01270/laws.FnExactPlaceAfter", spec := "fnExactPlaceAfter", unfollowed := true, recurses := true, apart := false }
def FnExactPlaceAfterSaid : Prop := fnExactPlaceAfterRow.holds Try.pinned (OpenSpec.ofChange fnExactPlaceAfterSpec)

/-- ITS FALSE NEIGHBOUR: 'it returns false'. Refute it at one input. -/
def fnExactPlaceAfterWrong : ChangeSpec := { name := "fnExactPlaceAfter", fn := fun _ => fun
  | [d1, d2, d3] => { results := [.lit (.bool false)], args := [d1, d2, d3] }
  | _ => none }
def FnExactPlaceAfterWrongFalsely : Prop := fnExactPlaceAfterRow.holds Try.pinned (OpenSpec.ofChange fnExactPlaceAfterWrong)

/-- 'laws.FnExactWayAfter': WHATEVER THE INPUT: true; the input reads as it did. -/
def fnExactWayAfterSpec : ChangeSpec := { name := "fnExactWayAfter", fn := fun _ => fun
  | [d1, d2, d3] => { results := [.lit (.bool true)], args := [d1, d2, d3] }
  | _ => none }
def fnExactWayAfterRow : OpenClaim := { program := "ythgggdaopkejpaa", sum := "6c0566912a19e013bee9a92af4ab1c25c14222cc3504647143b753315641e871", func := "loop.example/g01270/laws.FnExactWayAfter", spec := "fnExactWayAfter", unfollowed := true, recurses := true, apart := false }
def FnExactWayAfterSaid : Prop := fnExactWayAfterRow.holds Try.pinned (OpenSpec.ofChange fnExactWayAfterSpec)

/-- ITS FALSE NEIGHBOUR: 'it returns false'. Refute it at one input. -/
def fnExactWayAfterWrong : ChangeSpec := { name := "fnExactWayAfter", fn := fun _ => fun
  | [d1, d2, d3] => { results := [.lit (.bool false)], args := [d1, d2, d3] }
  | _ => none }
def FnExactWayAfterWrongFalsely : Prop := fnExactWayAfterRow.holds Try.pinned (OpenSpec.ofChange fnExactWayAfterWrong)

/-- 'laws.FnExactGhostsAfter': WHATEVER THE INPUT: true; the input reads as it did. -/
def fnExactGhostsAfterSpec : ChangeSpec := { name := "fnExactGhostsAfter", fn := fun _ => fun
  | [d1, d2] => { results := [.lit (.bool true)], args := [d1, d2] }
  | _ => none }
def fnExactGhostsAfterRow : OpenClaim := { program := "ythgggdaopkejpaa", sum := "6c0566912a19e013bee9a92af4ab1c25c14222cc3504647143b753315641e871", func := "loop.example/g01270/laws.FnExactGhostsAfter", spec := "fnExactGhostsAfter", recurses := true, apart := false }
def FnExactGhostsAfterSaid : Prop := fnExactGhostsAfterRow.holds Try.pinned (OpenSpec.ofChange fnExactGhostsAfterSpec)

/-- ITS FALSE NEIGHBOUR: 'it returns false'. Refute it at one input. -/
def fnExactGhostsAfterWrong : ChangeSpec := { name := "fnExactGhostsAfter", fn := fun _ => fun
  | [d1, d2] => { results := [.lit (.bool false)], args := [d1, d2] }
  | _ => none }
def FnExactGhostsAfterWrongFalsely : Prop := fnExactGhostsAfterRow.holds Try.pinned (OpenSpec.ofChange fnExactGhostsAfterWrong)

/-- 'laws.FnExactFallTimes': WHATEVER THE INPUT: true; the input reads as it did. -/
def fnExactFallTimesSpec : ChangeSpec := { name := "fnExactFallTimes", fn := fun _ => fun
  | [d] => { results := [.lit (.bool true)], args := [d] }
  | _ => none }
def fnExactFallTimesRow : OpenClaim := { program := "ythgggdaopkejpaa", sum := "6c0566912a19e013bee9a92af4ab1c25c14222cc3504647143b753315641e871", func := "loop.example/g01270/laws.FnExactFallTimes", spec := "fnExactFallTimes", unfollowed := true, recurses := true, apart := false }
def FnExactFallTimesSaid : Prop := fnExactFallTimesRow.holds Try.pinned (OpenSpec.ofChange fnExactFallTimesSpec)

/-- ITS FALSE NEIGHBOUR: 'it returns false'. Refute it at one input. -/
def fnExactFallTimesWrong : ChangeSpec := { name := "fnExactFallTimes", fn := fun _ => fun
  | [d] => { results := [.lit (.bool false)], args := [d] }
  | _ => none }
def FnExactFallTimesWrongFalsely : Prop := fnExactFallTimesRow.holds Try.pinned (OpenSpec.ofChange fnExactFallTimesWrong)

/-- 'laws.FnExactFallOf': WHATEVER THE INPUT: true; the input reads as it did. -/
def fnExactFallOfSpec : ChangeSpec := { name := "fnExactFallOf", fn := fun _ => fun
  | [d1, d2] => { results := [.lit (.bool true)], args := [d1, d2] }
  | _ => none }
def fnExactFallOfRow : OpenClaim := { program := "ythgggdaopkejpaa", sum := "6c0566912a19e013bee9a92af4ab1c25c14222cc3504647143b753315641e871", func := "loop.example/g01270/laws.FnExactFallOf", spec := "fnExactFallOf", unfollowed := true, recurses := true, apart := false }
def FnExactFallOfSaid : Prop := fnExactFallOfRow.holds Try.pinned (OpenSpec.ofChange fnExactFallOfSpec)

/-- ITS FALSE NEIGHBOUR: 'it returns false'. Refute it at one input. -/
def fnExactFallOfWrong : ChangeSpec := { name := "fnExactFallOf", fn := fun _ => fun
  | [d1, d2] => { results := [.lit (.bool false)], args := [d1, d2] }
  | _ => none }
def FnExactFallOfWrongFalsely : Prop := fnExactFallOfRow.holds Try.pinned (OpenSpec.ofChange fnExactFallOfWrong)

/-- 'laws.FnExactLastFall': WHATEVER THE INPUT: true; the input reads as it did. -/
def fnExactLastFallSpec : ChangeSpec := { name := "fnExactLastFall", fn := fun _ => fun
  | [d] => { results := [.lit (.bool true)], args := [d] }
  | _ => none }
def fnExactLastFallRow : OpenClaim := { program := "ythgggdaopkejpaa", sum := "6c0566912a19e013bee9a92af4ab1c25c14222cc3504647143b753315641e871", func := "loop.example/g01270/laws.FnExactLastFall", spec := "fnExactLastFall", unfollowed := true, recurses := true, apart := false }
def FnExactLastFallSaid : Prop := fnExactLastFallRow.holds Try.pinned (OpenSpec.ofChange fnExactLastFallSpec)

/-- ITS FALSE NEIGHBOUR: 'it returns false'. Refute it at one input. -/
def fnExactLastFallWrong : ChangeSpec := { name := "fnExactLastFall", fn := fun _ => fun
  | [d] => { results := [.lit (.bool false)], args := [d] }
  | _ => none }
def FnExactLastFallWrongFalsely : Prop := fnExactLastFallRow.holds Try.pinned (OpenSpec.ofChange fnExactLastFallWrong)

/-- 'laws.FnExactLastAnts': WHATEVER THE INPUT: true; the input reads as it did. -/
def fnExactLastAntsSpec : ChangeSpec := { name := "fnExactLastAnts", fn := fun _ => fun
  | [d] => { results := [.lit (.bool true)], args := [d] }
  | _ => none }
def fnExactLastAntsRow : OpenClaim := { program := "ythgggdaopkejpaa", sum := "6c0566912a19e013bee9a92af4ab1c25c14222cc3504647143b753315641e871", func := "loop.example/g01270/laws.FnExactLastAnts", spec := "fnExactLastAnts", unfollowed := true, recurses := true, apart := false }
def FnExactLastAntsSaid : Prop := fnExactLastAntsRow.holds Try.pinned (OpenSpec.ofChange fnExactLastAntsSpec)

/-- ITS FALSE NEIGHBOUR: 'it returns false'. Refute it at one input. -/
def fnExactLastAntsWrong : ChangeSpec := { name := "fnExactLastAnts", fn := fun _ => fun
  | [d] => { results := [.lit (.bool false)], args := [d] }
  | _ => none }
def FnExactLastAntsWrongFalsely : Prop := fnExactLastAntsRow.holds Try.pinned (OpenSpec.ofChange fnExactLastAntsWrong)

/-- 'laws.FnExactCountFalls': WHATEVER THE INPUT: true; the input reads as it did. -/
def fnExactCountFallsSpec : ChangeSpec := { name := "fnExactCountFalls", fn := fun _ => fun
  | [d] => { results := [.lit (.bool true)], args := [d] }
  | _ => none }
def fnExactCountFallsRow : OpenClaim := { program := "ythgggdaopkejpaa", sum := "6c0566912a19e013bee9a92af4ab1c25c14222cc3504647143b753315641e871", func := "loop.example/g01270/laws.FnExactCountFalls", spec := "fnExactCountFalls", unfollowed := true, recurses := true, apart := false }
def FnExactCountFallsSaid : Prop := fnExactCountFallsRow.holds Try.pinned (OpenSpec.ofChange fnExactCountFallsSpec)

/-- ITS FALSE NEIGHBOUR: 'it returns false'. Refute it at one input. -/
def fnExactCountFallsWrong : ChangeSpec := { name := "fnExactCountFalls", fn := fun _ => fun
  | [d] => { results := [.lit (.bool false)], args := [d] }
  | _ => none }
def FnExactCountFallsWrongFalsely : Prop := fnExactCountFallsRow.holds Try.pinned (OpenSpec.ofChange fnExactCountFallsWrong)

/-- 'laws.FnExactCountMeetings': WHATEVER THE INPUT: true; the input reads as it did. -/
def fnExactCountMeetingsSpec : ChangeSpec := { name := "fnExactCountMeetings", fn := fun _ => fun
  | [d] => { results := [.lit (.bool true)], args := [d] }
  | _ => none }
def fnExactCountMeetingsRow : OpenClaim := { program := "ythgggdaopkejpaa", sum := "6c0566912a19e013bee9a92af4ab1c25c14222cc3504647143b753315641e871", func := "loop.example/g01270/laws.FnExactCountMeetings", spec := "fnExactCountMeetings", apart := false }
def FnExactCountMeetingsSaid : Prop := fnExactCountMeetingsRow.holds Try.pinned (OpenSpec.ofChange fnExactCountMeetingsSpec)

/-- ITS FALSE NEIGHBOUR: 'it returns false'. Refute it at one input. -/
def fnExactCountMeetingsWrong : ChangeSpec := { name := "fnExactCountMeetings", fn := fun _ => fun
  | [d] => { results := [.lit (.bool false)], args := [d] }
  | _ => none }
def FnExactCountMeetingsWrongFalsely : Prop := fnExactCountMeetingsRow.holds Try.pinned (OpenSpec.ofChange fnExactCountMeetingsWrong)

/-- 'laws.FnExactOnRodAfter': WHATEVER THE INPUT: true; the input reads as it did. -/
def fnExactOnRodAfterSpec : ChangeSpec := { name := "fnExactOnRodAfter", fn := fun _ => fun
  | [d1, d2] => { results := [.lit (.bool true)], args := [d1, d2] }
  | _ => none }
def fnExactOnRodAfterRow : OpenClaim := { program := "ythgggdaopkejpaa", sum := "6c0566912a19e013bee9a92af4ab1c25c14222cc3504647143b753315641e871", func := "loop.example/g01270/laws.FnExactOnRodAfter", spec := "fnExactOnRodAfter", recurses := true, apart := false }
def FnExactOnRodAfterSaid : Prop := fnExactOnRodAfterRow.holds Try.pinned (OpenSpec.ofChange fnExactOnRodAfterSpec)

/-- ITS FALSE NEIGHBOUR: 'it returns false'. Refute it at one input. -/
def fnExactOnRodAfterWrong : ChangeSpec := { name := "fnExactOnRodAfter", fn := fun _ => fun
  | [d1, d2] => { results := [.lit (.bool false)], args := [d1, d2] }
  | _ => none }
def FnExactOnRodAfterWrongFalsely : Prop := fnExactOnRodAfterRow.holds Try.pinned (OpenSpec.ofChange fnExactOnRodAfterWrong)

/-- 'laws.FnExactMirrorRod': WHATEVER THE INPUT: true; the input reads as it did. -/
def fnExactMirrorRodSpec : ChangeSpec := { name := "fnExactMirrorRod", fn := fun _ => fun
  | [d] => { results := [.lit (.bool true)], args := [d] }
  | _ => none }
def fnExactMirrorRodRow : OpenClaim := { program := "ythgggdaopkejpaa", sum := "6c0566912a19e013bee9a92af4ab1c25c14222cc3504647143b753315641e871", func := "loop.example/g01270/laws.FnExactMirrorRod", spec := "fnExactMirrorRod", apart := false }
def FnExactMirrorRodSaid : Prop := fnExactMirrorRodRow.holds Try.pinned (OpenSpec.ofChange fnExactMirrorRodSpec)

/-- ITS FALSE NEIGHBOUR: 'it returns false'. Refute it at one input. -/
def fnExactMirrorRodWrong : ChangeSpec := { name := "fnExactMirrorRod", fn := fun _ => fun
  | [d] => { results := [.lit (.bool false)], args := [d] }
  | _ => none }
def FnExactMirrorRodWrongFalsely : Prop := fnExactMirrorRodRow.holds Try.pinned (OpenSpec.ofChange fnExactMirrorRodWrong)

/-- 'laws.FnExactTurnWays': WHATEVER THE INPUT: true; the input reads as it did. -/
def fnExactTurnWaysSpec : ChangeSpec := { name := "fnExactTurnWays", fn := fun _ => fun
  | [d] => { results := [.lit (.bool true)], args := [d] }
  | _ => none }
def fnExactTurnWaysRow : OpenClaim := { program := "ythgggdaopkejpaa", sum := "6c0566912a19e013bee9a92af4ab1c25c14222cc3504647143b753315641e871", func := "loop.example/g01270/laws.FnExactTurnWays", spec := "fnExactTurnWays", unfollowed := true, recurses := true, apart := false }
def FnExactTurnWaysSaid : Prop := fnExactTurnWaysRow.holds Try.pinned (OpenSpec.ofChange fnExactTurnWaysSpec)

/-- ITS FALSE NEIGHBOUR: 'it returns false'. Refute it at one input. -/
def fnExactTurnWaysWrong : ChangeSpec := { name := "fnExactTurnWays", fn := fun _ => fun
  | [d] => { results := [.lit (.bool false)], args := [d] }
  | _ => none }
def FnExactTurnWaysWrongFalsely : Prop := fnExactTurnWaysRow.holds Try.pinned (OpenSpec.ofChange fnExactTurnWaysWrong)

/-- 'laws.FnExactAddAnt': WHATEVER THE INPUT: true; the input reads as it did. -/
def fnExactAddAntSpec : ChangeSpec := { name := "fnExactAddAnt", fn := fun _ => fun
  | [d1, d2] => { results := [.lit (.bool true)], args := [d1, d2] }
  | _ => none }
def fnExactAddAntRow : OpenClaim := { program := "ythgggdaopkejpaa", sum := "6c0566912a19e013bee9a92af4ab1c25c14222cc3504647143b753315641e871", func := "loop.example/g01270/laws.FnExactAddAnt", spec := "fnExactAddAnt", unfollowed := true, recurses := true, apart := false }
def FnExactAddAntSaid : Prop := fnExactAddAntRow.holds Try.pinned (OpenSpec.ofChange fnExactAddAntSpec)

/-- ITS FALSE NEIGHBOUR: 'it returns false'. Refute it at one input. -/
def fnExactAddAntWrong : ChangeSpec := { name := "fnExactAddAnt", fn := fun _ => fun
  | [d1, d2] => { results := [.lit (.bool false)], args := [d1, d2] }
  | _ => none }
def FnExactAddAntWrongFalsely : Prop := fnExactAddAntRow.holds Try.pinned (OpenSpec.ofChange fnExactAddAntWrong)

/-- 'laws.FnExactDropAnt': WHATEVER THE INPUT: true; the input reads as it did. -/
def fnExactDropAntSpec : ChangeSpec := { name := "fnExactDropAnt", fn := fun _ => fun
  | [d1, d2] => { results := [.lit (.bool true)], args := [d1, d2] }
  | _ => none }
def fnExactDropAntRow : OpenClaim := { program := "ythgggdaopkejpaa", sum := "6c0566912a19e013bee9a92af4ab1c25c14222cc3504647143b753315641e871", func := "loop.example/g01270/laws.FnExactDropAnt", spec := "fnExactDropAnt", apart := false }
def FnExactDropAntSaid : Prop := fnExactDropAntRow.holds Try.pinned (OpenSpec.ofChange fnExactDropAntSpec)

/-- ITS FALSE NEIGHBOUR: 'it returns false'. Refute it at one input. -/
def fnExactDropAntWrong : ChangeSpec := { name := "fnExactDropAnt", fn := fun _ => fun
  | [d1, d2] => { results := [.lit (.bool false)], args := [d1, d2] }
  | _ => none }
def FnExactDropAntWrongFalsely : Prop := fnExactDropAntRow.holds Try.pinned (OpenSpec.ofChange fnExactDropAntWrong)

/- THE SECOND FORM. 'bulk': how many values and letters a reading holds, each counted each time it is reached (what is shared counts as often as it is met; a slice's spare places count too). A statement '..UptoSaid' is the law's where the arguments, and the package variables that the reading takes, are together of bulk at most 1048576: NARROWER than '..Said'. Prove '..Said' where nothing that the law and all that it calls make is longer than what came in: it says more and counts as full. Else prove '..UptoSaid'. A law counts once. -/
mutual
def uptoBulk {H : Type} : DataW H → Nat
  | .lit (.string bytes) => bytes.length + 1
  | .lit _ => 1
  | .nil => 1
  | .ptr d => uptoBulk d + 1
  | .slice elems spare => uptoBulkAll elems + uptoBulkAll spare + 1
  | .agg parts => uptoBulkAll parts + 1
  | .iface _ d => uptoBulk d + 1
  | .map entries => uptoBulkEntries entries + 1
  | .held _ => 1
def uptoBulkAll {H : Type} : List (DataW H) → Nat
  | [] => 0
  | d :: r => uptoBulk d + uptoBulkAll r
def uptoBulkEntries {H : Type} : List (Lit × DataW H) → Nat
  | [] => 0
  | x :: r => uptoBulkEntry x + uptoBulkEntries r
def uptoBulkEntry {H : Type} : Lit × DataW H → Nat
  | (.string bytes, d) => bytes.length + uptoBulk d + 1
  | (_, d) => uptoBulk d + 1
 end
def uptoSmall : (H : Type) → List (DataW H) → Bool := fun _ ds => decide (uptoBulkAll ds ≤ 1048576)
def OpenSpec.upto (s : _root_.Go.ChangeSpec) : _root_.Go.OpenSpec := { _root_.Go.OpenSpec.ofChange s with cond := some uptoSmall }

/-- 'laws.FnGhostsPass', WHERE WHAT IT READS IS OF BULK AT MOST 1048576: true; the input reads as it did. -/
def fnGhostsPassUptoRow : OpenClaim := { program := "ythgggdaopkejpaa", sum := "6c0566912a19e013bee9a92af4ab1c25c14222cc3504647143b753315641e871", func := "loop.example/g01270/laws.FnGhostsPass", spec := "fnGhostsPass", unfollowed := true, recurses := true, apart := false, narrowed := true }
def FnGhostsPassUptoSaid : Prop := fnGhostsPassUptoRow.holds Try.pinned (OpenSpec.upto fnGhostsPassSpec)

/-- 'laws.FnExactIsRod', WHERE WHAT IT READS IS OF BULK AT MOST 1048576: true; the input reads as it did. -/
def fnExactIsRodUptoRow : OpenClaim := { program := "ythgggdaopkejpaa", sum := "6c0566912a19e013bee9a92af4ab1c25c14222cc3504647143b753315641e871", func := "loop.example/g01270/laws.FnExactIsRod", spec := "fnExactIsRod", apart := false, narrowed := true }
def FnExactIsRodUptoSaid : Prop := fnExactIsRodUptoRow.holds Try.pinned (OpenSpec.upto fnExactIsRodSpec)

/-- 'laws.FnExactRodAfter', WHERE WHAT IT READS IS OF BULK AT MOST 1048576: true; the input reads as it did. -/
def fnExactRodAfterUptoRow : OpenClaim := { program := "ythgggdaopkejpaa", sum := "6c0566912a19e013bee9a92af4ab1c25c14222cc3504647143b753315641e871", func := "loop.example/g01270/laws.FnExactRodAfter", spec := "fnExactRodAfter", unfollowed := true, recurses := true, apart := false, narrowed := true }
def FnExactRodAfterUptoSaid : Prop := fnExactRodAfterUptoRow.holds Try.pinned (OpenSpec.upto fnExactRodAfterSpec)

/-- 'laws.FnExactPlaceAfter', WHERE WHAT IT READS IS OF BULK AT MOST 1048576: true; the input reads as it did. -/
def fnExactPlaceAfterUptoRow : OpenClaim := { program := "ythgggdaopkejpaa", sum := "6c0566912a19e013bee9a92af4ab1c25c14222cc3504647143b753315641e871", func := "loop.example/g01270/laws.FnExactPlaceAfter", spec := "fnExactPlaceAfter", unfollowed := true, recurses := true, apart := false, narrowed := true }
def FnExactPlaceAfterUptoSaid : Prop := fnExactPlaceAfterUptoRow.holds Try.pinned (OpenSpec.upto fnExactPlaceAfterSpec)

/-- 'laws.FnExactWayAfter', WHERE WHAT IT READS IS OF BULK AT MOST 1048576: true; the input reads as it did. -/
def fnExactWayAfterUptoRow : OpenClaim := { program := "ythgggdaopkejpaa", sum := "6c0566912a19e013bee9a92af4ab1c25c14222cc3504647143b753315641e871", func := "loop.example/g01270/laws.FnExactWayAfter", spec := "fnExactWayAfter", unfollowed := true, recurses := true, apart := false, narrowed := true }
def FnExactWayAfterUptoSaid : Prop := fnExactWayAfterUptoRow.holds Try.pinned (OpenSpec.upto fnExactWayAfterSpec)

/-- 'laws.FnExactGhostsAfter', WHERE WHAT IT READS IS OF BULK AT MOST 1048576: true; the input reads as it did. -/
def fnExactGhostsAfterUptoRow : OpenClaim := { program := "ythgggdaopkejpaa", sum := "6c0566912a19e013bee9a92af4ab1c25c14222cc3504647143b753315641e871", func := "loop.example/g01270/laws.FnExactGhostsAfter", spec := "fnExactGhostsAfter", recurses := true, apart := false, narrowed := true }
def FnExactGhostsAfterUptoSaid : Prop := fnExactGhostsAfterUptoRow.holds Try.pinned (OpenSpec.upto fnExactGhostsAfterSpec)

/-- 'laws.FnExactFallTimes', WHERE WHAT IT READS IS OF BULK AT MOST 1048576: true; the input reads as it did. -/
def fnExactFallTimesUptoRow : OpenClaim := { program := "ythgggdaopkejpaa", sum := "6c0566912a19e013bee9a92af4ab1c25c14222cc3504647143b753315641e871", func := "loop.example/g01270/laws.FnExactFallTimes", spec := "fnExactFallTimes", unfollowed := true, recurses := true, apart := false, narrowed := true }
def FnExactFallTimesUptoSaid : Prop := fnExactFallTimesUptoRow.holds Try.pinned (OpenSpec.upto fnExactFallTimesSpec)

/-- 'laws.FnExactFallOf', WHERE WHAT IT READS IS OF BULK AT MOST 1048576: true; the input reads as it did. -/
def fnExactFallOfUptoRow : OpenClaim := { program := "ythgggdaopkejpaa", sum := "6c0566912a19e013bee9a92af4ab1c25c14222cc3504647143b753315641e871", func := "loop.example/g01270/laws.FnExactFallOf", spec := "fnExactFallOf", unfollowed := true, recurses := true, apart := false, narrowed := true }
def FnExactFallOfUptoSaid : Prop := fnExactFallOfUptoRow.holds Try.pinned (OpenSpec.upto fnExactFallOfSpec)

/-- 'laws.FnExactLastFall', WHERE WHAT IT READS IS OF BULK AT MOST 1048576: true; the input reads as it did. -/
def fnExactLastFallUptoRow : OpenClaim := { program := "ythgggdaopkejpaa", sum := "6c0566912a19e013bee9a92af4ab1c25c14222cc3504647143b753315641e871", func := "loop.example/g01270/laws.FnExactLastFall", spec := "fnExactLastFall", unfollowed := true, recurses := true, apart := false, narrowed := true }
def FnExactLastFallUptoSaid : Prop := fnExactLastFallUptoRow.holds Try.pinned (OpenSpec.upto fnExactLastFallSpec)

/-- 'laws.FnExactLastAnts', WHERE WHAT IT READS IS OF BULK AT MOST 1048576: true; the input reads as it did. -/
def fnExactLastAntsUptoRow : OpenClaim := { program := "ythgggdaopkejpaa", sum := "6c0566912a19e013bee9a92af4ab1c25c14222cc3504647143b753315641e871", func := "loop.example/g01270/laws.FnExactLastAnts", spec := "fnExactLastAnts", unfollowed := true, recurses := true, apart := false, narrowed := true }
def FnExactLastAntsUptoSaid : Prop := fnExactLastAntsUptoRow.holds Try.pinned (OpenSpec.upto fnExactLastAntsSpec)

/-- 'laws.FnExactCountFalls', WHERE WHAT IT READS IS OF BULK AT MOST 1048576: true; the input reads as it did. -/
def fnExactCountFallsUptoRow : OpenClaim := { program := "ythgggdaopkejpaa", sum := "6c0566912a19e013bee9a92af4ab1c25c14222cc3504647143b753315641e871", func := "loop.example/g01270/laws.FnExactCountFalls", spec := "fnExactCountFalls", unfollowed := true, recurses := true, apart := false, narrowed := true }
def FnExactCountFallsUptoSaid : Prop := fnExactCountFallsUptoRow.holds Try.pinned (OpenSpec.upto fnExactCountFallsSpec)

/-- 'laws.FnExactCountMeetings', WHERE WHAT IT READS IS OF BULK AT MOST 1048576: true; the input reads as it did. -/
def fnExactCountMeetingsUptoRow : OpenClaim := { program := "ythgggdaopkejpaa", sum := "6c0566912a19e013bee9a92af4ab1c25c14222cc3504647143b753315641e871", func := "loop.example/g01270/laws.FnExactCountMeetings", spec := "fnExactCountMeetings", apart := false, narrowed := true }
def FnExactCountMeetingsUptoSaid : Prop := fnExactCountMeetingsUptoRow.holds Try.pinned (OpenSpec.upto fnExactCountMeetingsSpec)

/-- 'laws.FnExactOnRodAfter', WHERE WHAT IT READS IS OF BULK AT MOST 1048576: true; the input reads as it did. -/
def fnExactOnRodAfterUptoRow : OpenClaim := { program := "ythgggdaopkejpaa", sum := "6c0566912a19e013bee9a92af4ab1c25c14222cc3504647143b753315641e871", func := "loop.example/g01270/laws.FnExactOnRodAfter", spec := "fnExactOnRodAfter", recurses := true, apart := false, narrowed := true }
def FnExactOnRodAfterUptoSaid : Prop := fnExactOnRodAfterUptoRow.holds Try.pinned (OpenSpec.upto fnExactOnRodAfterSpec)

/-- 'laws.FnExactMirrorRod', WHERE WHAT IT READS IS OF BULK AT MOST 1048576: true; the input reads as it did. -/
def fnExactMirrorRodUptoRow : OpenClaim := { program := "ythgggdaopkejpaa", sum := "6c0566912a19e013bee9a92af4ab1c25c14222cc3504647143b753315641e871", func := "loop.example/g01270/laws.FnExactMirrorRod", spec := "fnExactMirrorRod", apart := false, narrowed := true }
def FnExactMirrorRodUptoSaid : Prop := fnExactMirrorRodUptoRow.holds Try.pinned (OpenSpec.upto fnExactMirrorRodSpec)

/-- 'laws.FnExactTurnWays', WHERE WHAT IT READS IS OF BULK AT MOST 1048576: true; the input reads as it did. -/
def fnExactTurnWaysUptoRow : OpenClaim := { program := "ythgggdaopkejpaa", sum := "6c0566912a19e013bee9a92af4ab1c25c14222cc3504647143b753315641e871", func := "loop.example/g01270/laws.FnExactTurnWays", spec := "fnExactTurnWays", unfollowed := true, recurses := true, apart := false, narrowed := true }
def FnExactTurnWaysUptoSaid : Prop := fnExactTurnWaysUptoRow.holds Try.pinned (OpenSpec.upto fnExactTurnWaysSpec)

/-- 'laws.FnExactAddAnt', WHERE WHAT IT READS IS OF BULK AT MOST 1048576: true; the input reads as it did. -/
def fnExactAddAntUptoRow : OpenClaim := { program := "ythgggdaopkejpaa", sum := "6c0566912a19e013bee9a92af4ab1c25c14222cc3504647143b753315641e871", func := "loop.example/g01270/laws.FnExactAddAnt", spec := "fnExactAddAnt", unfollowed := true, recurses := true, apart := false, narrowed := true }
def FnExactAddAntUptoSaid : Prop := fnExactAddAntUptoRow.holds Try.pinned (OpenSpec.upto fnExactAddAntSpec)

/-- 'laws.FnExactDropAnt', WHERE WHAT IT READS IS OF BULK AT MOST 1048576: true; the input reads as it did. -/
def fnExactDropAntUptoRow : OpenClaim := { program := "ythgggdaopkejpaa", sum := "6c0566912a19e013bee9a92af4ab1c25c14222cc3504647143b753315641e871", func := "loop.example/g01270/laws.FnExactDropAnt", spec := "fnExactDropAnt", apart := false, narrowed := true }
def FnExactDropAntUptoSaid : Prop := fnExactDropAntUptoRow.holds Try.pinned (OpenSpec.upto fnExactDropAntSpec)

end Rows
end Go.Proofs.Ythgggdaopkejpaa
