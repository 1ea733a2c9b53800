/-
  No cell of these rows narrows 'for every input' (looked for: loops, veiled, ifaces, maps, wideKeys, modest, calm, conditions, laid).
  DERIVED. THE GIVEN ROWS OF THIS SEAT. 12 by the template 'for every input the law returns true; each argument reads behind the call as it read before'; 0 by the template 'total and deterministic' (their statements: YtdmpgnkiejcljaaTotals.lean).
  GIVEN WITH THE SEED: the statements are not yours to turn. If you find one false, say at which input.
  Laid BY PROGRAM, IN A SANDBOX (cutbox-rows.mjs): the forced cells as the released guide's own fill.sh prints them over the translation 115ca01aea321e35… (all of the seat's roots in one cut). By AI agents, Wed Nov 11 2026. No macro, syntax, notation, axiom, sorry.
-/
import Derived.Test.YtdmpgnkiejcljaaChecked
import GoSem.Claim
import GoSem.ClaimJoined
import GoSem.ClaimMapViews
import Derived.JoinedTies
import Derived.KernelRfl
namespace Go.Proofs.Ytdmpgnkiejcljaa
/- THE CELL 'sum', in the pinned program and in every row, IS THE sha256 OF THE DUMP (.gsa) THAT YtdmpgnkiejcljaaProg.lean LOADS. Nothing in Lean hashes anything: it is a label: what it is worth is what the hold of that sum in a sandbox is worth. -/
noncomputable def Try.pinned : Pinned := { name := "ytdmpgnkiejcljaa", sum := "115ca01aea321e35255c3d83e067117ede720bb68417ade5ba2b42f1d79b384a", checked := Try.checked }
namespace Rows
def none {H : Type} : Left H := { results := [], args := [] }

/-- 'laws.FnExactRodAfter': WHATEVER THE INPUT: true; the input reads as it did. -/
def fnExactRodAfterSpec : ChangeSpec := { name := "fnExactRodAfter", fn := fun _ => fun
  | [d1, d2] => { results := [.lit (.bool true)], args := [d1, d2] }
  | _ => none }
def fnExactRodAfterRow : OpenClaim := { program := "ytdmpgnkiejcljaa", sum := "115ca01aea321e35255c3d83e067117ede720bb68417ade5ba2b42f1d79b384a", func := "loop.example/g01270/laws.FnExactRodAfter", spec := "fnExactRodAfter", unfollowed := true, recurses := true, apart := false }
def FnExactRodAfterSaid : Prop := fnExactRodAfterRow.holds Try.pinned (OpenSpec.ofChange fnExactRodAfterSpec)

/-- ITS FALSE NEIGHBOUR: 'it returns false'. Refute it at one input. -/
def fnExactRodAfterWrong : ChangeSpec := { name := "fnExactRodAfter", fn := fun _ => fun
  | [d1, d2] => { results := [.lit (.bool false)], args := [d1, d2] }
  | _ => none }
def FnExactRodAfterWrongFalsely : Prop := fnExactRodAfterRow.holds Try.pinned (OpenSpec.ofChange fnExactRodAfterWrong)

/-- 'laws.FnExactPlaceAfter': WHATEVER THE INPUT: true; the input reads as it did. -/
def fnExactPlaceAfterSpec : ChangeSpec := { name := "fnExactPlaceAfter", fn := fun _ => fun
  | [d1, d2, d3] => { results := [.lit (.bool true)], args := [d1, d2, d3] }
  | _ => none }
def fnExactPlaceAfterRow : OpenClaim := { program := "ytdmpgnkiejcljaa", sum := "115ca01aea321e35255c3d83e067117ede720bb68417ade5ba2b42f1d79b384a", func := "loop.example/g01270/laws.FnExactPlaceAfter", spec := "fnExactPlaceAfter", unfollowed := true, recurses := true, apart := false }
def FnExactPlaceAfterSaid : Prop := fnExactPlaceAfterRow.holds Try.pinned (OpenSpec.ofChange fnExactPlaceAfterSpec)

/-- ITS FALSE NEIGHBOUR: 'it returns false'. Refute it at one input. -/
def fnExactPlaceAfterWrong : ChangeSpec := { name := "fnExactPlaceAfter", fn := fun _ => fun
  | [d1, d2, d3] => { results := [.lit (.bool false)], args := [d1, d2, d3] }
  | _ => none }
def FnExactPlaceAfterWrongFalsely : Prop := fnExactPlaceAfterRow.holds Try.pinned (OpenSpec.ofChange fnExactPlaceAfterWrong)

/-- 'laws.FnExactWayAfter': WHATEVER THE INPUT: true; the input reads as it did. -/
def fnExactWayAfterSpec : ChangeSpec := { name := "fnExactWayAfter", fn := fun _ => fun
  | [d1, d2, d3] => { results := [.lit (.bool true)], args := [d1, d2, d3] }
  | _ => none }
def fnExactWayAfterRow : OpenClaim := { program := "ytdmpgnkiejcljaa", sum := "115ca01aea321e35255c3d83e067117ede720bb68417ade5ba2b42f1d79b384a", func := "loop.example/g01270/laws.FnExactWayAfter", spec := "fnExactWayAfter", unfollowed := true, recurses := true, apart := false }
def FnExactWayAfterSaid : Prop := fnExactWayAfterRow.holds Try.pinned (OpenSpec.ofChange fnExactWayAfterSpec)

/-- ITS FALSE NEIGHBOUR: 'it returns false'. Refute it at one input. -/
def fnExactWayAfterWrong : ChangeSpec := { name := "fnExactWayAfter", fn := fun _ => fun
  | [d1, d2, d3] => { results := [.lit (.bool false)], args := [d1, d2, d3] }
  | _ => none }
def FnExactWayAfterWrongFalsely : Prop := fnExactWayAfterRow.holds Try.pinned (OpenSpec.ofChange fnExactWayAfterWrong)

/-- 'laws.FnExactGhostsAfter': WHATEVER THE INPUT: true; the input reads as it did. -/
def fnExactGhostsAfterSpec : ChangeSpec := { name := "fnExactGhostsAfter", fn := fun _ => fun
  | [d1, d2] => { results := [.lit (.bool true)], args := [d1, d2] }
  | _ => none }
def fnExactGhostsAfterRow : OpenClaim := { program := "ytdmpgnkiejcljaa", sum := "115ca01aea321e35255c3d83e067117ede720bb68417ade5ba2b42f1d79b384a", func := "loop.example/g01270/laws.FnExactGhostsAfter", spec := "fnExactGhostsAfter", recurses := true, apart := false }
def FnExactGhostsAfterSaid : Prop := fnExactGhostsAfterRow.holds Try.pinned (OpenSpec.ofChange fnExactGhostsAfterSpec)

/-- ITS FALSE NEIGHBOUR: 'it returns false'. Refute it at one input. -/
def fnExactGhostsAfterWrong : ChangeSpec := { name := "fnExactGhostsAfter", fn := fun _ => fun
  | [d1, d2] => { results := [.lit (.bool false)], args := [d1, d2] }
  | _ => none }
def FnExactGhostsAfterWrongFalsely : Prop := fnExactGhostsAfterRow.holds Try.pinned (OpenSpec.ofChange fnExactGhostsAfterWrong)

/-- 'laws.FnExactOnRodAfter': WHATEVER THE INPUT: true; the input reads as it did. -/
def fnExactOnRodAfterSpec : ChangeSpec := { name := "fnExactOnRodAfter", fn := fun _ => fun
  | [d1, d2] => { results := [.lit (.bool true)], args := [d1, d2] }
  | _ => none }
def fnExactOnRodAfterRow : OpenClaim := { program := "ytdmpgnkiejcljaa", sum := "115ca01aea321e35255c3d83e067117ede720bb68417ade5ba2b42f1d79b384a", func := "loop.example/g01270/laws.FnExactOnRodAfter", spec := "fnExactOnRodAfter", recurses := true, apart := false }
def FnExactOnRodAfterSaid : Prop := fnExactOnRodAfterRow.holds Try.pinned (OpenSpec.ofChange fnExactOnRodAfterSpec)

/-- ITS FALSE NEIGHBOUR: 'it returns false'. Refute it at one input. -/
def fnExactOnRodAfterWrong : ChangeSpec := { name := "fnExactOnRodAfter", fn := fun _ => fun
  | [d1, d2] => { results := [.lit (.bool false)], args := [d1, d2] }
  | _ => none }
def FnExactOnRodAfterWrongFalsely : Prop := fnExactOnRodAfterRow.holds Try.pinned (OpenSpec.ofChange fnExactOnRodAfterWrong)

/-- 'laws.FnExactMirrorRod': WHATEVER THE INPUT: true; the input reads as it did. -/
def fnExactMirrorRodSpec : ChangeSpec := { name := "fnExactMirrorRod", fn := fun _ => fun
  | [d] => { results := [.lit (.bool true)], args := [d] }
  | _ => none }
def fnExactMirrorRodRow : OpenClaim := { program := "ytdmpgnkiejcljaa", sum := "115ca01aea321e35255c3d83e067117ede720bb68417ade5ba2b42f1d79b384a", func := "loop.example/g01270/laws.FnExactMirrorRod", spec := "fnExactMirrorRod", apart := false }
def FnExactMirrorRodSaid : Prop := fnExactMirrorRodRow.holds Try.pinned (OpenSpec.ofChange fnExactMirrorRodSpec)

/-- ITS FALSE NEIGHBOUR: 'it returns false'. Refute it at one input. -/
def fnExactMirrorRodWrong : ChangeSpec := { name := "fnExactMirrorRod", fn := fun _ => fun
  | [d] => { results := [.lit (.bool false)], args := [d] }
  | _ => none }
def FnExactMirrorRodWrongFalsely : Prop := fnExactMirrorRodRow.holds Try.pinned (OpenSpec.ofChange fnExactMirrorRodWrong)

/-- 'laws.FnExactTurnWays': WHATEVER THE INPUT: true; the input reads as it did. -/
def fnExactTurnWaysSpec : ChangeSpec := { name := "fnExactTurnWays", fn := fun _ => fun
  | [d] => { results := [.lit (.bool true)], args := [d] }
  | _ => none }
def fnExactTurnWaysRow : OpenClaim := { program := "ytdmpgnkiejcljaa", sum := "115ca01aea321e35255c3d83e067117ede720bb68417ade5ba2b42f1d79b384a", func := "loop.example/g01270/laws.FnExactTurnWays", spec := "fnExactTurnWays", unfollowed := true, recurses := true, apart := false }
def FnExactTurnWaysSaid : Prop := fnExactTurnWaysRow.holds Try.pinned (OpenSpec.ofChange fnExactTurnWaysSpec)

/-- ITS FALSE NEIGHBOUR: 'it returns false'. Refute it at one input. -/
def fnExactTurnWaysWrong : ChangeSpec := { name := "fnExactTurnWays", fn := fun _ => fun
  | [d] => { results := [.lit (.bool false)], args := [d] }
  | _ => none }
def FnExactTurnWaysWrongFalsely : Prop := fnExactTurnWaysRow.holds Try.pinned (OpenSpec.ofChange fnExactTurnWaysWrong)

/-- 'laws.FnExactAddAnt': WHATEVER THE INPUT: true; the input reads as it did. -/
def fnExactAddAntSpec : ChangeSpec := { name := "fnExactAddAnt", fn := fun _ => fun
  | [d1, d2] => { results := [.lit (.bool true)], args := [d1, d2] }
  | _ => none }
def fnExactAddAntRow : OpenClaim := { program := "ytdmpgnkiejcljaa", sum := "115ca01aea321e35255c3d83e067117ede720bb68417ade5ba2b42f1d79b384a", func := "loop.example/g01270/laws.FnExactAddAnt", spec := "fnExactAddAnt", unfollowed := true, recurses := true, apart := false }
def FnExactAddAntSaid : Prop := fnExactAddAntRow.holds Try.pinned (OpenSpec.ofChange fnExactAddAntSpec)

/-- ITS FALSE NEIGHBOUR: 'it returns false'. Refute it at one input. -/
def fnExactAddAntWrong : ChangeSpec := { name := "fnExactAddAnt", fn := fun _ => fun
  | [d1, d2] => { results := [.lit (.bool false)], args := [d1, d2] }
  | _ => none }
def FnExactAddAntWrongFalsely : Prop := fnExactAddAntRow.holds Try.pinned (OpenSpec.ofChange fnExactAddAntWrong)

/-- 'laws.FnExactIsCircle': WHATEVER THE INPUT: true; the input reads as it did. -/
def fnExactIsCircleSpec : ChangeSpec := { name := "fnExactIsCircle", fn := fun _ => fun
  | [d] => { results := [.lit (.bool true)], args := [d] }
  | _ => none }
def fnExactIsCircleRow : OpenClaim := { program := "ytdmpgnkiejcljaa", sum := "115ca01aea321e35255c3d83e067117ede720bb68417ade5ba2b42f1d79b384a", func := "loop.example/g01270/laws.FnExactIsCircle", spec := "fnExactIsCircle", apart := false }
def FnExactIsCircleSaid : Prop := fnExactIsCircleRow.holds Try.pinned (OpenSpec.ofChange fnExactIsCircleSpec)

/-- ITS FALSE NEIGHBOUR: 'it returns false'. Refute it at one input. -/
def fnExactIsCircleWrong : ChangeSpec := { name := "fnExactIsCircle", fn := fun _ => fun
  | [d] => { results := [.lit (.bool false)], args := [d] }
  | _ => none }
def FnExactIsCircleWrongFalsely : Prop := fnExactIsCircleRow.holds Try.pinned (OpenSpec.ofChange fnExactIsCircleWrong)

/-- 'laws.FnExactMeetingsInRound': WHATEVER THE INPUT: true; the input reads as it did. -/
def fnExactMeetingsInRoundSpec : ChangeSpec := { name := "fnExactMeetingsInRound", fn := fun _ => fun
  | [d] => { results := [.lit (.bool true)], args := [d] }
  | _ => none }
def fnExactMeetingsInRoundRow : OpenClaim := { program := "ytdmpgnkiejcljaa", sum := "115ca01aea321e35255c3d83e067117ede720bb68417ade5ba2b42f1d79b384a", func := "loop.example/g01270/laws.FnExactMeetingsInRound", spec := "fnExactMeetingsInRound", unfollowed := true, recurses := true, apart := false }
def FnExactMeetingsInRoundSaid : Prop := fnExactMeetingsInRoundRow.holds Try.pinned (OpenSpec.ofChange fnExactMeetingsInRoundSpec)

/-- ITS FALSE NEIGHBOUR: 'it returns false'. Refute it at one input. -/
def fnExactMeetingsInRoundWrong : ChangeSpec := { name := "fnExactMeetingsInRound", fn := fun _ => fun
  | [d] => { results := [.lit (.bool false)], args := [d] }
  | _ => none }
def FnExactMeetingsInRoundWrongFalsely : Prop := fnExactMeetingsInRoundRow.holds Try.pinned (OpenSpec.ofChange fnExactMeetingsInRoundWrong)

/-- 'laws.FnExactShiftInRound': WHATEVER THE INPUT: true; the input reads as it did. -/
def fnExactShiftInRoundSpec : ChangeSpec := { name := "fnExactShiftInRound", fn := fun _ => fun
  | [d] => { results := [.lit (.bool true)], args := [d] }
  | _ => none }
def fnExactShiftInRoundRow : OpenClaim := { program := "ytdmpgnkiejcljaa", sum := "115ca01aea321e35255c3d83e067117ede720bb68417ade5ba2b42f1d79b384a", func := "loop.example/g01270/laws.FnExactShiftInRound", spec := "fnExactShiftInRound", apart := false }
def FnExactShiftInRoundSaid : Prop := fnExactShiftInRoundRow.holds Try.pinned (OpenSpec.ofChange fnExactShiftInRoundSpec)

/-- ITS FALSE NEIGHBOUR: 'it returns false'. Refute it at one input. -/
def fnExactShiftInRoundWrong : ChangeSpec := { name := "fnExactShiftInRound", fn := fun _ => fun
  | [d] => { results := [.lit (.bool false)], args := [d] }
  | _ => none }
def FnExactShiftInRoundWrongFalsely : Prop := fnExactShiftInRoundRow.holds Try.pinned (OpenSpec.ofChange fnExactShiftInRoundWrong)

/-- 'laws.FnExactGapsAround': WHATEVER THE INPUT: true; the input reads as it did. -/
def fnExactGapsAroundSpec : ChangeSpec := { name := "fnExactGapsAround", fn := fun _ => fun
  | [d] => { results := [.lit (.bool true)], args := [d] }
  | _ => none }
def fnExactGapsAroundRow : OpenClaim := { program := "ytdmpgnkiejcljaa", sum := "115ca01aea321e35255c3d83e067117ede720bb68417ade5ba2b42f1d79b384a", func := "loop.example/g01270/laws.FnExactGapsAround", spec := "fnExactGapsAround", apart := false }
def FnExactGapsAroundSaid : Prop := fnExactGapsAroundRow.holds Try.pinned (OpenSpec.ofChange fnExactGapsAroundSpec)

/-- ITS FALSE NEIGHBOUR: 'it returns false'. Refute it at one input. -/
def fnExactGapsAroundWrong : ChangeSpec := { name := "fnExactGapsAround", fn := fun _ => fun
  | [d] => { results := [.lit (.bool false)], args := [d] }
  | _ => none }
def FnExactGapsAroundWrongFalsely : Prop := fnExactGapsAroundRow.holds Try.pinned (OpenSpec.ofChange fnExactGapsAroundWrong)

/- THE SECOND FORM. 'bulk': how many values and letters a reading holds, each counted each time it is reached (what is shared counts as often as it is met; a slice's spare places count too). A statement '..UptoSaid' is the law's where the arguments, and the package variables that the reading takes, are together of bulk at most 1048576: NARROWER than '..Said'. Prove '..Said' where nothing that the law and all that it calls make is longer than what came in: it says more and counts as full. Else prove '..UptoSaid'. A law counts once. -/
mutual
def uptoBulk {H : Type} : DataW H → Nat
  | .lit (.string bytes) => bytes.length + 1
  | .lit _ => 1
  | .nil => 1
  | .ptr d => uptoBulk d + 1
  | .slice elems spare => uptoBulkAll elems + uptoBulkAll spare + 1
  | .agg parts => uptoBulkAll parts + 1
  | .iface _ d => uptoBulk d + 1
  | .map entries => uptoBulkEntries entries + 1
  | .held _ => 1
def uptoBulkAll {H : Type} : List (DataW H) → Nat
  | [] => 0
  | d :: r => uptoBulk d + uptoBulkAll r
def uptoBulkEntries {H : Type} : List (Lit × DataW H) → Nat
  | [] => 0
  | x :: r => uptoBulkEntry x + uptoBulkEntries r
def uptoBulkEntry {H : Type} : Lit × DataW H → Nat
  | (.string bytes, d) => bytes.length + uptoBulk d + 1
  | (_, d) => uptoBulk d + 1
 end
def uptoSmall : (H : Type) → List (DataW H) → Bool := fun _ ds => decide (uptoBulkAll ds ≤ 1048576)
def OpenSpec.upto (s : _root_.Go.ChangeSpec) : _root_.Go.OpenSpec := { _root_.Go.OpenSpec.ofChange s with cond := some uptoSmall }

/-- 'laws.FnExactRodAfter', WHERE WHAT IT READS IS OF BULK AT MOST 1048576: true; the input reads as it did. -/
def fnExactRodAfterUptoRow : OpenClaim := { program := "ytdmpgnkiejcljaa", sum := "115ca01aea321e35255c3d83e067117ede720bb68417ade5ba2b42f1d79b384a", func := "loop.example/g01270/laws.FnExactRodAfter", spec := "fnExactRodAfter", unfollowed := true, recurses := true, apart := false, narrowed := true }
def FnExactRodAfterUptoSaid : Prop := fnExactRodAfterUptoRow.holds Try.pinned (OpenSpec.upto fnExactRodAfterSpec)

/-- 'laws.FnExactPlaceAfter', WHERE WHAT IT READS IS OF BULK AT MOST 1048576: true; the input reads as it did. -/
def fnExactPlaceAfterUptoRow : OpenClaim := { program := "ytdmpgnkiejcljaa", sum := "115ca01aea321e35255c3d83e067117ede720bb68417ade5ba2b42f1d79b384a", func := "loop.example/g01270/laws.FnExactPlaceAfter", spec := "fnExactPlaceAfter", unfollowed := true, recurses := true, apart := false, narrowed := true }
def FnExactPlaceAfterUptoSaid : Prop := fnExactPlaceAfterUptoRow.holds Try.pinned (OpenSpec.upto fnExactPlaceAfterSpec)

/-- 'laws.FnExactWayAfter', WHERE WHAT IT READS IS OF BULK AT MOST 1048576: true; the input reads as it did. -/
def fnExactWayAfterUptoRow : OpenClaim := { program := "ytdmpgnkiejcljaa", sum := "115ca01aea321e35255c3d83e067117ede720bb68417ade5ba2b42f1d79b384a", func := "loop.example/g01270/laws.FnExactWayAfter", spec := "fnExactWayAfter", unfollowed := true, recurses := true, apart := false, narrowed := true }
def FnExactWayAfterUptoSaid : Prop := fnExactWayAfterUptoRow.holds Try.pinned (OpenSpec.upto fnExactWayAfterSpec)

/-- 'laws.FnExactGhostsAfter', WHERE WHAT IT READS IS OF BULK AT MOST 1048576: true; the input reads as it did. -/
def fnExactGhostsAfterUptoRow : OpenClaim := { program := "ytdmpgnkiejcljaa", sum := "115ca01aea321e35255c3d83e067117ede720bb68417ade5ba2b42f1d79b384a", func := "loop.example/g01270/laws.FnExactGhostsAfter", spec := "fnExactGhostsAfter", recurses := true, apart := false, narrowed := true }
def FnExactGhostsAfterUptoSaid : Prop := fnExactGhostsAfterUptoRow.holds Try.pinned (OpenSpec.upto fnExactGhostsAfterSpec)

/-- 'laws.FnExactOnRodAfter', WHERE WHAT IT READS IS OF BULK AT MOST 1048576: true; the input reads as it did. -/
def fnExactOnRodAfterUptoRow : OpenClaim := { program := "ytdmpgnkiejcljaa", sum := "115ca01aea321e35255c3d83e067117ede720bb68417ade5ba2b42f1d79b384a", func := "loop.example/g01270/laws.FnExactOnRodAfter", spec := "fnExactOnRodAfter", recurses := true, apart := false, narrowed := true }
def FnExactOnRodAfterUptoSaid : Prop := fnExactOnRodAfterUptoRow.holds Try.pinned (OpenSpec.upto fnExactOnRodAfterSpec)

/-- 'laws.FnExactMirrorRod', WHERE WHAT IT READS IS OF BULK AT MOST 1048576: true; the input reads as it did. -/
def fnExactMirrorRodUptoRow : OpenClaim := { program := "ytdmpgnkiejcljaa", sum := "115ca01aea321e35255c3d83e067117ede720bb68417ade5ba2b42f1d79b384a", func := "loop.example/g01270/laws.FnExactMirrorRod", spec := "fnExactMirrorRod", apart := false, narrowed := true }
def FnExactMirrorRodUptoSaid : Prop := fnExactMirrorRodUptoRow.holds Try.pinned (OpenSpec.upto fnExactMirrorRodSpec)

/-- 'laws.FnExactTurnWays', WHERE WHAT IT READS IS OF BULK AT MOST 1048576: true; the input reads as it did. -/
def fnExactTurnWaysUptoRow : OpenClaim := { program := "ytdmpgnkiejcljaa", sum := "115ca01aea321e35255c3d83e067117ede720bb68417ade5ba2b42f1d79b384a", func := "loop.example/g01270/laws.FnExactTurnWays", spec := "fnExactTurnWays", unfollowed := true, recurses := true, apart := false, narrowed := true }
def FnExactTurnWaysUptoSaid : Prop := fnExactTurnWaysUptoRow.holds Try.pinned (OpenSpec.upto fnExactTurnWaysSpec)

/-- 'laws.FnExactAddAnt', WHERE WHAT IT READS IS OF BULK AT MOST 1048576: true; the input reads as it did. -/
def fnExactAddAntUptoRow : OpenClaim := { program := "ytdmpgnkiejcljaa", sum := "115ca01aea321e35255c3d83e067117ede720bb68417ade5ba2b42f1d79b384a", func := "loop.example/g01270/laws.FnExactAddAnt", spec := "fnExactAddAnt", unfollowed := true, recurses := true, apart := false, narrowed := true }
def FnExactAddAntUptoSaid : Prop := fnExactAddAntUptoRow.holds Try.pinned (OpenSpec.upto fnExactAddAntSpec)

/-- 'laws.FnExactIsCircle', WHERE WHAT IT READS IS OF BULK AT MOST 1048576: true; the input reads as it did. -/
def fnExactIsCircleUptoRow : OpenClaim := { program := "ytdmpgnkiejcljaa", sum := "115ca01aea321e35255c3d83e067117ede720bb68417ade5ba2b42f1d79b384a", func := "loop.example/g01270/laws.FnExactIsCircle", spec := "fnExactIsCircle", apart := false, narrowed := true }
def FnExactIsCircleUptoSaid : Prop := fnExactIsCircleUptoRow.holds Try.pinned (OpenSpec.upto fnExactIsCircleSpec)

/-- 'laws.FnExactMeetingsInRound', WHERE WHAT IT READS IS OF BULK AT MOST 1048576: true; the input reads as it did. -/
def fnExactMeetingsInRoundUptoRow : OpenClaim := { program := "ytdmpgnkiejcljaa", sum := "115ca01aea321e35255c3d83e067117ede720bb68417ade5ba2b42f1d79b384a", func := "loop.example/g01270/laws.FnExactMeetingsInRound", spec := "fnExactMeetingsInRound", unfollowed := true, recurses := true, apart := false, narrowed := true }
def FnExactMeetingsInRoundUptoSaid : Prop := fnExactMeetingsInRoundUptoRow.holds Try.pinned (OpenSpec.upto fnExactMeetingsInRoundSpec)

/-- 'laws.FnExactShiftInRound', WHERE WHAT IT READS IS OF BULK AT MOST 1048576: true; the input reads as it did. -/
def fnExactShiftInRoundUptoRow : OpenClaim := { program := "ytdmpgnkiejcljaa", sum := "115ca01aea321e35255c3d83e067117ede720bb68417ade5ba2b42f1d79b384a", func := "loop.example/g01270/laws.FnExactShiftInRound", spec := "fnExactShiftInRound", apart := false, narrowed := true }
def FnExactShiftInRoundUptoSaid : Prop := fnExactShiftInRoundUptoRow.holds Try.pinned (OpenSpec.upto fnExactShiftInRoundSpec)

/-- 'laws.FnExactGapsAround', WHERE WHAT IT READS IS OF BULK AT MOST 1048576: true; the input reads as it did. -/
def fnExactGapsAroundUptoRow : OpenClaim := { program := "ytdmpgnkiejcljaa", sum := "115ca01aea321e35255c3d83e067117ede720bb68417ade5ba2b42f1d79b384a", func := "loop.example/g01270/laws.FnExactGapsAround", spec := "fnExactGapsAround", apart := false, narrowed := true }
def FnExactGapsAroundUptoSaid : Prop := fnExactGapsAroundUptoRow.holds Try.pinned (OpenSpec.upto fnExactGapsAroundSpec)

end Rows
end Go.Proofs.Ytdmpgnkiejcljaa
