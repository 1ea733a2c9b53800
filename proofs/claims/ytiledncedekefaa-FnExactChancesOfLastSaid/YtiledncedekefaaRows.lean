/-
  No cell of these rows narrows 'for every input' (looked for: loops, veiled, ifaces, maps, wideKeys, modest, calm, conditions, laid).
  DERIVED. THE GIVEN ROWS OF THIS SEAT. 15 by the template 'for every input the law returns true; each argument reads behind the call as it read before'; 0 by the template 'total and deterministic' (their statements: YtiledncedekefaaTotals.lean).
  GIVEN WITH THE SEED: the statements are not yours to turn. If you find one false, say at which input.
  Laid BY PROGRAM, IN A SANDBOX (cutbox-rows.mjs): the forced cells as the released guide's own fill.sh prints them over the translation 342964b9ed54ec28… (all of the seat's roots in one cut). By AI agents, Wed Nov 11 2026. No macro, syntax, notation, axiom, sorry.
-/
import Derived.Test.YtiledncedekefaaChecked
import GoSem.Claim
import GoSem.ClaimJoined
import GoSem.ClaimMapViews
import Derived.JoinedTies
import Derived.KernelRfl
namespace Go.Proofs.Ytiledncedekefaa
/- THE CELL 'sum', in the pinned program and in every row, IS THE sha256 OF THE DUMP (.gsa) THAT YtiledncedekefaaProg.lean LOADS. Nothing in Lean hashes anything: it is a label: what it is worth is what the hold of that sum in a sandbox is worth. -/
noncomputable def Try.pinned : Pinned := { name := "ytiledncedekefaa", sum := "342964b9ed54ec28b1cd8ecdae4993655bc1ee1e11bf67e4fc9da35cb763e062", checked := Try.checked }
namespace Rows
def none {H : Type} : Left H := { results := [], args := [] }

/-- 'laws.FnExactArePlaces': WHATEVER THE INPUT: true; the input reads as it did. -/
def fnExactArePlacesSpec : ChangeSpec := { name := "fnExactArePlaces", fn := fun _ => fun
  | [d1, d2] => { results := [.lit (.bool true)], args := [d1, d2] }
  | _ => none }
def fnExactArePlacesRow : OpenClaim := { program := "ytiledncedekefaa", sum := "342964b9ed54ec28b1cd8ecdae4993655bc1ee1e11bf67e4fc9da35cb763e062", func := "loop.example/g01270/laws.FnExactArePlaces", spec := "fnExactArePlaces", apart := false }
def FnExactArePlacesSaid : Prop := fnExactArePlacesRow.holds Try.pinned (OpenSpec.ofChange fnExactArePlacesSpec)

/-- ITS FALSE NEIGHBOUR: 'it returns false'. Refute it at one input. -/
def fnExactArePlacesWrong : ChangeSpec := { name := "fnExactArePlaces", fn := fun _ => fun
  | [d1, d2] => { results := [.lit (.bool false)], args := [d1, d2] }
  | _ => none }
def FnExactArePlacesWrongFalsely : Prop := fnExactArePlacesRow.holds Try.pinned (OpenSpec.ofChange fnExactArePlacesWrong)

/-- 'laws.FnExactRodOfWays': WHATEVER THE INPUT: true; the input reads as it did. -/
def fnExactRodOfWaysSpec : ChangeSpec := { name := "fnExactRodOfWays", fn := fun _ => fun
  | [d1, d2, d3] => { results := [.lit (.bool true)], args := [d1, d2, d3] }
  | _ => none }
def fnExactRodOfWaysRow : OpenClaim := { program := "ytiledncedekefaa", sum := "342964b9ed54ec28b1cd8ecdae4993655bc1ee1e11bf67e4fc9da35cb763e062", func := "loop.example/g01270/laws.FnExactRodOfWays", spec := "fnExactRodOfWays", apart := false }
def FnExactRodOfWaysSaid : Prop := fnExactRodOfWaysRow.holds Try.pinned (OpenSpec.ofChange fnExactRodOfWaysSpec)

/-- ITS FALSE NEIGHBOUR: 'it returns false'. Refute it at one input. -/
def fnExactRodOfWaysWrong : ChangeSpec := { name := "fnExactRodOfWays", fn := fun _ => fun
  | [d1, d2, d3] => { results := [.lit (.bool false)], args := [d1, d2, d3] }
  | _ => none }
def FnExactRodOfWaysWrongFalsely : Prop := fnExactRodOfWaysRow.holds Try.pinned (OpenSpec.ofChange fnExactRodOfWaysWrong)

/-- 'laws.FnExactWaysOf': WHATEVER THE INPUT: true; the input reads as it did. -/
def fnExactWaysOfSpec : ChangeSpec := { name := "fnExactWaysOf", fn := fun _ => fun
  | [d] => { results := [.lit (.bool true)], args := [d] }
  | _ => none }
def fnExactWaysOfRow : OpenClaim := { program := "ytiledncedekefaa", sum := "342964b9ed54ec28b1cd8ecdae4993655bc1ee1e11bf67e4fc9da35cb763e062", func := "loop.example/g01270/laws.FnExactWaysOf", spec := "fnExactWaysOf", apart := false }
def FnExactWaysOfSaid : Prop := fnExactWaysOfRow.holds Try.pinned (OpenSpec.ofChange fnExactWaysOfSpec)

/-- ITS FALSE NEIGHBOUR: 'it returns false'. Refute it at one input. -/
def fnExactWaysOfWrong : ChangeSpec := { name := "fnExactWaysOf", fn := fun _ => fun
  | [d] => { results := [.lit (.bool false)], args := [d] }
  | _ => none }
def FnExactWaysOfWrongFalsely : Prop := fnExactWaysOfRow.holds Try.pinned (OpenSpec.ofChange fnExactWaysOfWrong)

/-- 'laws.FnExactCountLastFalls': WHATEVER THE INPUT: true; the input reads as it did. -/
def fnExactCountLastFallsSpec : ChangeSpec := { name := "fnExactCountLastFalls", fn := fun _ => fun
  | [d1, d2] => { results := [.lit (.bool true)], args := [d1, d2] }
  | _ => none }
def fnExactCountLastFallsRow : OpenClaim := { program := "ytiledncedekefaa", sum := "342964b9ed54ec28b1cd8ecdae4993655bc1ee1e11bf67e4fc9da35cb763e062", func := "loop.example/g01270/laws.FnExactCountLastFalls", spec := "fnExactCountLastFalls", inPlace := ["internal/bytealg.MakeNoZero"], unfollowed := true, recurses := true, apart := false }
def FnExactCountLastFallsSaid : Prop := fnExactCountLastFallsRow.holds Try.pinned (OpenSpec.ofChange fnExactCountLastFallsSpec)

/-- ITS FALSE NEIGHBOUR: 'it returns false'. Refute it at one input. -/
def fnExactCountLastFallsWrong : ChangeSpec := { name := "fnExactCountLastFalls", fn := fun _ => fun
  | [d1, d2] => { results := [.lit (.bool false)], args := [d1, d2] }
  | _ => none }
def FnExactCountLastFallsWrongFalsely : Prop := fnExactCountLastFallsRow.holds Try.pinned (OpenSpec.ofChange fnExactCountLastFallsWrong)

/-- 'laws.FnExactLatestFall': WHATEVER THE INPUT: true; the input reads as it did. -/
def fnExactLatestFallSpec : ChangeSpec := { name := "fnExactLatestFall", fn := fun _ => fun
  | [d1, d2] => { results := [.lit (.bool true)], args := [d1, d2] }
  | _ => none }
def fnExactLatestFallRow : OpenClaim := { program := "ytiledncedekefaa", sum := "342964b9ed54ec28b1cd8ecdae4993655bc1ee1e11bf67e4fc9da35cb763e062", func := "loop.example/g01270/laws.FnExactLatestFall", spec := "fnExactLatestFall", apart := false }
def FnExactLatestFallSaid : Prop := fnExactLatestFallRow.holds Try.pinned (OpenSpec.ofChange fnExactLatestFallSpec)

/-- ITS FALSE NEIGHBOUR: 'it returns false'. Refute it at one input. -/
def fnExactLatestFallWrong : ChangeSpec := { name := "fnExactLatestFall", fn := fun _ => fun
  | [d1, d2] => { results := [.lit (.bool false)], args := [d1, d2] }
  | _ => none }
def FnExactLatestFallWrongFalsely : Prop := fnExactLatestFallRow.holds Try.pinned (OpenSpec.ofChange fnExactLatestFallWrong)

/-- 'laws.FnExactEarliestEmpty': WHATEVER THE INPUT: true; the input reads as it did. -/
def fnExactEarliestEmptySpec : ChangeSpec := { name := "fnExactEarliestEmpty", fn := fun _ => fun
  | [d1, d2] => { results := [.lit (.bool true)], args := [d1, d2] }
  | _ => none }
def fnExactEarliestEmptyRow : OpenClaim := { program := "ytiledncedekefaa", sum := "342964b9ed54ec28b1cd8ecdae4993655bc1ee1e11bf67e4fc9da35cb763e062", func := "loop.example/g01270/laws.FnExactEarliestEmpty", spec := "fnExactEarliestEmpty", inPlace := ["internal/bytealg.MakeNoZero"], unfollowed := true, recurses := true, apart := false }
def FnExactEarliestEmptySaid : Prop := fnExactEarliestEmptyRow.holds Try.pinned (OpenSpec.ofChange fnExactEarliestEmptySpec)

/-- ITS FALSE NEIGHBOUR: 'it returns false'. Refute it at one input. -/
def fnExactEarliestEmptyWrong : ChangeSpec := { name := "fnExactEarliestEmpty", fn := fun _ => fun
  | [d1, d2] => { results := [.lit (.bool false)], args := [d1, d2] }
  | _ => none }
def FnExactEarliestEmptyWrongFalsely : Prop := fnExactEarliestEmptyRow.holds Try.pinned (OpenSpec.ofChange fnExactEarliestEmptyWrong)

/-- 'laws.FnExactCountLastAnt': WHATEVER THE INPUT: true; the input reads as it did. -/
def fnExactCountLastAntSpec : ChangeSpec := { name := "fnExactCountLastAnt", fn := fun _ => fun
  | [d1, d2, d3] => { results := [.lit (.bool true)], args := [d1, d2, d3] }
  | _ => none }
def fnExactCountLastAntRow : OpenClaim := { program := "ytiledncedekefaa", sum := "342964b9ed54ec28b1cd8ecdae4993655bc1ee1e11bf67e4fc9da35cb763e062", func := "loop.example/g01270/laws.FnExactCountLastAnt", spec := "fnExactCountLastAnt", inPlace := ["internal/bytealg.MakeNoZero"], unfollowed := true, recurses := true, apart := false }
def FnExactCountLastAntSaid : Prop := fnExactCountLastAntRow.holds Try.pinned (OpenSpec.ofChange fnExactCountLastAntSpec)

/-- ITS FALSE NEIGHBOUR: 'it returns false'. Refute it at one input. -/
def fnExactCountLastAntWrong : ChangeSpec := { name := "fnExactCountLastAnt", fn := fun _ => fun
  | [d1, d2, d3] => { results := [.lit (.bool false)], args := [d1, d2, d3] }
  | _ => none }
def FnExactCountLastAntWrongFalsely : Prop := fnExactCountLastAntRow.holds Try.pinned (OpenSpec.ofChange fnExactCountLastAntWrong)

/-- 'laws.FnExactChancesOfLast': WHATEVER THE INPUT: true; the input reads as it did. -/
def fnExactChancesOfLastSpec : ChangeSpec := { name := "fnExactChancesOfLast", fn := fun _ => fun
  | [d1, d2] => { results := [.lit (.bool true)], args := [d1, d2] }
  | _ => none }
def fnExactChancesOfLastRow : OpenClaim := { program := "ytiledncedekefaa", sum := "342964b9ed54ec28b1cd8ecdae4993655bc1ee1e11bf67e4fc9da35cb763e062", func := "loop.example/g01270/laws.FnExactChancesOfLast", spec := "fnExactChancesOfLast", inPlace := ["internal/bytealg.MakeNoZero"], unfollowed := true, recurses := true, apart := false }
def FnExactChancesOfLastSaid : Prop := fnExactChancesOfLastRow.holds Try.pinned (OpenSpec.ofChange fnExactChancesOfLastSpec)

/-- ITS FALSE NEIGHBOUR: 'it returns false'. Refute it at one input. -/
def fnExactChancesOfLastWrong : ChangeSpec := { name := "fnExactChancesOfLast", fn := fun _ => fun
  | [d1, d2] => { results := [.lit (.bool false)], args := [d1, d2] }
  | _ => none }
def FnExactChancesOfLastWrongFalsely : Prop := fnExactChancesOfLastRow.holds Try.pinned (OpenSpec.ofChange fnExactChancesOfLastWrong)

/-- 'laws.FnExactMeanMeetings': WHATEVER THE INPUT: true; the input reads as it did. -/
def fnExactMeanMeetingsSpec : ChangeSpec := { name := "fnExactMeanMeetings", fn := fun _ => fun
  | [d1, d2] => { results := [.lit (.bool true)], args := [d1, d2] }
  | _ => none }
def fnExactMeanMeetingsRow : OpenClaim := { program := "ytiledncedekefaa", sum := "342964b9ed54ec28b1cd8ecdae4993655bc1ee1e11bf67e4fc9da35cb763e062", func := "loop.example/g01270/laws.FnExactMeanMeetings", spec := "fnExactMeanMeetings", apart := false }
def FnExactMeanMeetingsSaid : Prop := fnExactMeanMeetingsRow.holds Try.pinned (OpenSpec.ofChange fnExactMeanMeetingsSpec)

/-- ITS FALSE NEIGHBOUR: 'it returns false'. Refute it at one input. -/
def fnExactMeanMeetingsWrong : ChangeSpec := { name := "fnExactMeanMeetings", fn := fun _ => fun
  | [d1, d2] => { results := [.lit (.bool false)], args := [d1, d2] }
  | _ => none }
def FnExactMeanMeetingsWrongFalsely : Prop := fnExactMeanMeetingsRow.holds Try.pinned (OpenSpec.ofChange fnExactMeanMeetingsWrong)

/-- 'laws.FnExactMeanLastFall': WHATEVER THE INPUT: true; the input reads as it did. -/
def fnExactMeanLastFallSpec : ChangeSpec := { name := "fnExactMeanLastFall", fn := fun _ => fun
  | [d1, d2] => { results := [.lit (.bool true)], args := [d1, d2] }
  | _ => none }
def fnExactMeanLastFallRow : OpenClaim := { program := "ytiledncedekefaa", sum := "342964b9ed54ec28b1cd8ecdae4993655bc1ee1e11bf67e4fc9da35cb763e062", func := "loop.example/g01270/laws.FnExactMeanLastFall", spec := "fnExactMeanLastFall", inPlace := ["internal/bytealg.MakeNoZero"], unfollowed := true, recurses := true, apart := false }
def FnExactMeanLastFallSaid : Prop := fnExactMeanLastFallRow.holds Try.pinned (OpenSpec.ofChange fnExactMeanLastFallSpec)

/-- ITS FALSE NEIGHBOUR: 'it returns false'. Refute it at one input. -/
def fnExactMeanLastFallWrong : ChangeSpec := { name := "fnExactMeanLastFall", fn := fun _ => fun
  | [d1, d2] => { results := [.lit (.bool false)], args := [d1, d2] }
  | _ => none }
def FnExactMeanLastFallWrongFalsely : Prop := fnExactMeanLastFallRow.holds Try.pinned (OpenSpec.ofChange fnExactMeanLastFallWrong)

/-- 'laws.FnExactCountWithMeetings': WHATEVER THE INPUT: true; the input reads as it did. -/
def fnExactCountWithMeetingsSpec : ChangeSpec := { name := "fnExactCountWithMeetings", fn := fun _ => fun
  | [d1, d2, d3] => { results := [.lit (.bool true)], args := [d1, d2, d3] }
  | _ => none }
def fnExactCountWithMeetingsRow : OpenClaim := { program := "ytiledncedekefaa", sum := "342964b9ed54ec28b1cd8ecdae4993655bc1ee1e11bf67e4fc9da35cb763e062", func := "loop.example/g01270/laws.FnExactCountWithMeetings", spec := "fnExactCountWithMeetings", inPlace := ["internal/bytealg.MakeNoZero"], unfollowed := true, recurses := true, apart := false }
def FnExactCountWithMeetingsSaid : Prop := fnExactCountWithMeetingsRow.holds Try.pinned (OpenSpec.ofChange fnExactCountWithMeetingsSpec)

/-- ITS FALSE NEIGHBOUR: 'it returns false'. Refute it at one input. -/
def fnExactCountWithMeetingsWrong : ChangeSpec := { name := "fnExactCountWithMeetings", fn := fun _ => fun
  | [d1, d2, d3] => { results := [.lit (.bool false)], args := [d1, d2, d3] }
  | _ => none }
def FnExactCountWithMeetingsWrongFalsely : Prop := fnExactCountWithMeetingsRow.holds Try.pinned (OpenSpec.ofChange fnExactCountWithMeetingsWrong)

/-- 'laws.FnExactRodOfFalls': WHATEVER THE INPUT: true; the input reads as it did. -/
def fnExactRodOfFallsSpec : ChangeSpec := { name := "fnExactRodOfFalls", fn := fun _ => fun
  | [d1, d2, d3] => { results := [.lit (.bool true)], args := [d1, d2, d3] }
  | _ => none }
def fnExactRodOfFallsRow : OpenClaim := { program := "ytiledncedekefaa", sum := "342964b9ed54ec28b1cd8ecdae4993655bc1ee1e11bf67e4fc9da35cb763e062", func := "loop.example/g01270/laws.FnExactRodOfFalls", spec := "fnExactRodOfFalls", unfollowed := true, recurses := true, apart := false }
def FnExactRodOfFallsSaid : Prop := fnExactRodOfFallsRow.holds Try.pinned (OpenSpec.ofChange fnExactRodOfFallsSpec)

/-- ITS FALSE NEIGHBOUR: 'it returns false'. Refute it at one input. -/
def fnExactRodOfFallsWrong : ChangeSpec := { name := "fnExactRodOfFalls", fn := fun _ => fun
  | [d1, d2, d3] => { results := [.lit (.bool false)], args := [d1, d2, d3] }
  | _ => none }
def FnExactRodOfFallsWrongFalsely : Prop := fnExactRodOfFallsRow.holds Try.pinned (OpenSpec.ofChange fnExactRodOfFallsWrong)

/-- 'laws.FnExactCountSameFalls': WHATEVER THE INPUT: true; the input reads as it did. -/
def fnExactCountSameFallsSpec : ChangeSpec := { name := "fnExactCountSameFalls", fn := fun _ => fun
  | [d1, d2, d3] => { results := [.lit (.bool true)], args := [d1, d2, d3] }
  | _ => none }
def fnExactCountSameFallsRow : OpenClaim := { program := "ytiledncedekefaa", sum := "342964b9ed54ec28b1cd8ecdae4993655bc1ee1e11bf67e4fc9da35cb763e062", func := "loop.example/g01270/laws.FnExactCountSameFalls", spec := "fnExactCountSameFalls", unfollowed := true, recurses := true, apart := false }
def FnExactCountSameFallsSaid : Prop := fnExactCountSameFallsRow.holds Try.pinned (OpenSpec.ofChange fnExactCountSameFallsSpec)

/-- ITS FALSE NEIGHBOUR: 'it returns false'. Refute it at one input. -/
def fnExactCountSameFallsWrong : ChangeSpec := { name := "fnExactCountSameFalls", fn := fun _ => fun
  | [d1, d2, d3] => { results := [.lit (.bool false)], args := [d1, d2, d3] }
  | _ => none }
def FnExactCountSameFallsWrongFalsely : Prop := fnExactCountSameFallsRow.holds Try.pinned (OpenSpec.ofChange fnExactCountSameFallsWrong)

/-- 'laws.FnExactFallsOfRod': WHATEVER THE INPUT: true; the input reads as it did. -/
def fnExactFallsOfRodSpec : ChangeSpec := { name := "fnExactFallsOfRod", fn := fun _ => fun
  | [d] => { results := [.lit (.bool true)], args := [d] }
  | _ => none }
def fnExactFallsOfRodRow : OpenClaim := { program := "ytiledncedekefaa", sum := "342964b9ed54ec28b1cd8ecdae4993655bc1ee1e11bf67e4fc9da35cb763e062", func := "loop.example/g01270/laws.FnExactFallsOfRod", spec := "fnExactFallsOfRod", unfollowed := true, recurses := true, apart := false }
def FnExactFallsOfRodSaid : Prop := fnExactFallsOfRodRow.holds Try.pinned (OpenSpec.ofChange fnExactFallsOfRodSpec)

/-- ITS FALSE NEIGHBOUR: 'it returns false'. Refute it at one input. -/
def fnExactFallsOfRodWrong : ChangeSpec := { name := "fnExactFallsOfRod", fn := fun _ => fun
  | [d] => { results := [.lit (.bool false)], args := [d] }
  | _ => none }
def FnExactFallsOfRodWrongFalsely : Prop := fnExactFallsOfRodRow.holds Try.pinned (OpenSpec.ofChange fnExactFallsOfRodWrong)

/-- 'laws.FnExactBestWays': WHATEVER THE INPUT: true; the input reads as it did. -/
def fnExactBestWaysSpec : ChangeSpec := { name := "fnExactBestWays", fn := fun _ => fun
  | [d1, d2] => { results := [.lit (.bool true)], args := [d1, d2] }
  | _ => none }
def fnExactBestWaysRow : OpenClaim := { program := "ytiledncedekefaa", sum := "342964b9ed54ec28b1cd8ecdae4993655bc1ee1e11bf67e4fc9da35cb763e062", func := "loop.example/g01270/laws.FnExactBestWays", spec := "fnExactBestWays", inPlace := ["internal/bytealg.MakeNoZero"], unfollowed := true, recurses := true, apart := false }
def FnExactBestWaysSaid : Prop := fnExactBestWaysRow.holds Try.pinned (OpenSpec.ofChange fnExactBestWaysSpec)

/-- ITS FALSE NEIGHBOUR: 'it returns false'. Refute it at one input. -/
def fnExactBestWaysWrong : ChangeSpec := { name := "fnExactBestWays", fn := fun _ => fun
  | [d1, d2] => { results := [.lit (.bool false)], args := [d1, d2] }
  | _ => none }
def FnExactBestWaysWrongFalsely : Prop := fnExactBestWaysRow.holds Try.pinned (OpenSpec.ofChange fnExactBestWaysWrong)

/- THE SECOND FORM. 'bulk': how many values and letters a reading holds, each counted each time it is reached (what is shared counts as often as it is met; a slice's spare places count too). A statement '..UptoSaid' is the law's where the arguments, and the package variables that the reading takes, are together of bulk at most 1048576: NARROWER than '..Said'. Prove '..Said' where nothing that the law and all that it calls make is longer than what came in: it says more and counts as full. Else prove '..UptoSaid'. A law counts once. -/
mutual
def uptoBulk {H : Type} : DataW H → Nat
  | .lit (.string bytes) => bytes.length + 1
  | .lit _ => 1
  | .nil => 1
  | .ptr d => uptoBulk d + 1
  | .slice elems spare => uptoBulkAll elems + uptoBulkAll spare + 1
  | .agg parts => uptoBulkAll parts + 1
  | .iface _ d => uptoBulk d + 1
  | .map entries => uptoBulkEntries entries + 1
  | .held _ => 1
def uptoBulkAll {H : Type} : List (DataW H) → Nat
  | [] => 0
  | d :: r => uptoBulk d + uptoBulkAll r
def uptoBulkEntries {H : Type} : List (Lit × DataW H) → Nat
  | [] => 0
  | x :: r => uptoBulkEntry x + uptoBulkEntries r
def uptoBulkEntry {H : Type} : Lit × DataW H → Nat
  | (.string bytes, d) => bytes.length + uptoBulk d + 1
  | (_, d) => uptoBulk d + 1
 end
def uptoSmall : (H : Type) → List (DataW H) → Bool := fun _ ds => decide (uptoBulkAll ds ≤ 1048576)
def OpenSpec.upto (s : _root_.Go.ChangeSpec) : _root_.Go.OpenSpec := { _root_.Go.OpenSpec.ofChange s with cond := some uptoSmall }

/-- 'laws.FnExactArePlaces', WHERE WHAT IT READS IS OF BULK AT MOST 1048576: true; the input reads as it did. -/
def fnExactArePlacesUptoRow : OpenClaim := { program := "ytiledncedekefaa", sum := "342964b9ed54ec28b1cd8ecdae4993655bc1ee1e11bf67e4fc9da35cb763e062", func := "loop.example/g01270/laws.FnExactArePlaces", spec := "fnExactArePlaces", apart := false, narrowed := true }
def FnExactArePlacesUptoSaid : Prop := fnExactArePlacesUptoRow.holds Try.pinned (OpenSpec.upto fnExactArePlacesSpec)

/-- 'laws.FnExactRodOfWays', WHERE WHAT IT READS IS OF BULK AT MOST 1048576: true; the input reads as it did. -/
def fnExactRodOfWaysUptoRow : OpenClaim := { program := "ytiledncedekefaa", sum := "342964b9ed54ec28b1cd8ecdae4993655bc1ee1e11bf67e4fc9da35cb763e062", func := "loop.example/g01270/laws.FnExactRodOfWays", spec := "fnExactRodOfWays", apart := false, narrowed := true }
def FnExactRodOfWaysUptoSaid : Prop := fnExactRodOfWaysUptoRow.holds Try.pinned (OpenSpec.upto fnExactRodOfWaysSpec)

/-- 'laws.FnExactWaysOf', WHERE WHAT IT READS IS OF BULK AT MOST 1048576: true; the input reads as it did. -/
def fnExactWaysOfUptoRow : OpenClaim := { program := "ytiledncedekefaa", sum := "342964b9ed54ec28b1cd8ecdae4993655bc1ee1e11bf67e4fc9da35cb763e062", func := "loop.example/g01270/laws.FnExactWaysOf", spec := "fnExactWaysOf", apart := false, narrowed := true }
def FnExactWaysOfUptoSaid : Prop := fnExactWaysOfUptoRow.holds Try.pinned (OpenSpec.upto fnExactWaysOfSpec)

/-- 'laws.FnExactCountLastFalls', WHERE WHAT IT READS IS OF BULK AT MOST 1048576: true; the input reads as it did. -/
def fnExactCountLastFallsUptoRow : OpenClaim := { program := "ytiledncedekefaa", sum := "342964b9ed54ec28b1cd8ecdae4993655bc1ee1e11bf67e4fc9da35cb763e062", func := "loop.example/g01270/laws.FnExactCountLastFalls", spec := "fnExactCountLastFalls", inPlace := ["internal/bytealg.MakeNoZero"], unfollowed := true, recurses := true, apart := false, narrowed := true }
def FnExactCountLastFallsUptoSaid : Prop := fnExactCountLastFallsUptoRow.holds Try.pinned (OpenSpec.upto fnExactCountLastFallsSpec)

/-- 'laws.FnExactLatestFall', WHERE WHAT IT READS IS OF BULK AT MOST 1048576: true; the input reads as it did. -/
def fnExactLatestFallUptoRow : OpenClaim := { program := "ytiledncedekefaa", sum := "342964b9ed54ec28b1cd8ecdae4993655bc1ee1e11bf67e4fc9da35cb763e062", func := "loop.example/g01270/laws.FnExactLatestFall", spec := "fnExactLatestFall", apart := false, narrowed := true }
def FnExactLatestFallUptoSaid : Prop := fnExactLatestFallUptoRow.holds Try.pinned (OpenSpec.upto fnExactLatestFallSpec)

/-- 'laws.FnExactEarliestEmpty', WHERE WHAT IT READS IS OF BULK AT MOST 1048576: true; the input reads as it did. -/
def fnExactEarliestEmptyUptoRow : OpenClaim := { program := "ytiledncedekefaa", sum := "342964b9ed54ec28b1cd8ecdae4993655bc1ee1e11bf67e4fc9da35cb763e062", func := "loop.example/g01270/laws.FnExactEarliestEmpty", spec := "fnExactEarliestEmpty", inPlace := ["internal/bytealg.MakeNoZero"], unfollowed := true, recurses := true, apart := false, narrowed := true }
def FnExactEarliestEmptyUptoSaid : Prop := fnExactEarliestEmptyUptoRow.holds Try.pinned (OpenSpec.upto fnExactEarliestEmptySpec)

/-- 'laws.FnExactCountLastAnt', WHERE WHAT IT READS IS OF BULK AT MOST 1048576: true; the input reads as it did. -/
def fnExactCountLastAntUptoRow : OpenClaim := { program := "ytiledncedekefaa", sum := "342964b9ed54ec28b1cd8ecdae4993655bc1ee1e11bf67e4fc9da35cb763e062", func := "loop.example/g01270/laws.FnExactCountLastAnt", spec := "fnExactCountLastAnt", inPlace := ["internal/bytealg.MakeNoZero"], unfollowed := true, recurses := true, apart := false, narrowed := true }
def FnExactCountLastAntUptoSaid : Prop := fnExactCountLastAntUptoRow.holds Try.pinned (OpenSpec.upto fnExactCountLastAntSpec)

/-- 'laws.FnExactChancesOfLast', WHERE WHAT IT READS IS OF BULK AT MOST 1048576: true; the input reads as it did. -/
def fnExactChancesOfLastUptoRow : OpenClaim := { program := "ytiledncedekefaa", sum := "342964b9ed54ec28b1cd8ecdae4993655bc1ee1e11bf67e4fc9da35cb763e062", func := "loop.example/g01270/laws.FnExactChancesOfLast", spec := "fnExactChancesOfLast", inPlace := ["internal/bytealg.MakeNoZero"], unfollowed := true, recurses := true, apart := false, narrowed := true }
def FnExactChancesOfLastUptoSaid : Prop := fnExactChancesOfLastUptoRow.holds Try.pinned (OpenSpec.upto fnExactChancesOfLastSpec)

/-- 'laws.FnExactMeanMeetings', WHERE WHAT IT READS IS OF BULK AT MOST 1048576: true; the input reads as it did. -/
def fnExactMeanMeetingsUptoRow : OpenClaim := { program := "ytiledncedekefaa", sum := "342964b9ed54ec28b1cd8ecdae4993655bc1ee1e11bf67e4fc9da35cb763e062", func := "loop.example/g01270/laws.FnExactMeanMeetings", spec := "fnExactMeanMeetings", apart := false, narrowed := true }
def FnExactMeanMeetingsUptoSaid : Prop := fnExactMeanMeetingsUptoRow.holds Try.pinned (OpenSpec.upto fnExactMeanMeetingsSpec)

/-- 'laws.FnExactMeanLastFall', WHERE WHAT IT READS IS OF BULK AT MOST 1048576: true; the input reads as it did. -/
def fnExactMeanLastFallUptoRow : OpenClaim := { program := "ytiledncedekefaa", sum := "342964b9ed54ec28b1cd8ecdae4993655bc1ee1e11bf67e4fc9da35cb763e062", func := "loop.example/g01270/laws.FnExactMeanLastFall", spec := "fnExactMeanLastFall", inPlace := ["internal/bytealg.MakeNoZero"], unfollowed := true, recurses := true, apart := false, narrowed := true }
def FnExactMeanLastFallUptoSaid : Prop := fnExactMeanLastFallUptoRow.holds Try.pinned (OpenSpec.upto fnExactMeanLastFallSpec)

/-- 'laws.FnExactCountWithMeetings', WHERE WHAT IT READS IS OF BULK AT MOST 1048576: true; the input reads as it did. -/
def fnExactCountWithMeetingsUptoRow : OpenClaim := { program := "ytiledncedekefaa", sum := "342964b9ed54ec28b1cd8ecdae4993655bc1ee1e11bf67e4fc9da35cb763e062", func := "loop.example/g01270/laws.FnExactCountWithMeetings", spec := "fnExactCountWithMeetings", inPlace := ["internal/bytealg.MakeNoZero"], unfollowed := true, recurses := true, apart := false, narrowed := true }
def FnExactCountWithMeetingsUptoSaid : Prop := fnExactCountWithMeetingsUptoRow.holds Try.pinned (OpenSpec.upto fnExactCountWithMeetingsSpec)

/-- 'laws.FnExactRodOfFalls', WHERE WHAT IT READS IS OF BULK AT MOST 1048576: true; the input reads as it did. -/
def fnExactRodOfFallsUptoRow : OpenClaim := { program := "ytiledncedekefaa", sum := "342964b9ed54ec28b1cd8ecdae4993655bc1ee1e11bf67e4fc9da35cb763e062", func := "loop.example/g01270/laws.FnExactRodOfFalls", spec := "fnExactRodOfFalls", unfollowed := true, recurses := true, apart := false, narrowed := true }
def FnExactRodOfFallsUptoSaid : Prop := fnExactRodOfFallsUptoRow.holds Try.pinned (OpenSpec.upto fnExactRodOfFallsSpec)

/-- 'laws.FnExactCountSameFalls', WHERE WHAT IT READS IS OF BULK AT MOST 1048576: true; the input reads as it did. -/
def fnExactCountSameFallsUptoRow : OpenClaim := { program := "ytiledncedekefaa", sum := "342964b9ed54ec28b1cd8ecdae4993655bc1ee1e11bf67e4fc9da35cb763e062", func := "loop.example/g01270/laws.FnExactCountSameFalls", spec := "fnExactCountSameFalls", unfollowed := true, recurses := true, apart := false, narrowed := true }
def FnExactCountSameFallsUptoSaid : Prop := fnExactCountSameFallsUptoRow.holds Try.pinned (OpenSpec.upto fnExactCountSameFallsSpec)

/-- 'laws.FnExactFallsOfRod', WHERE WHAT IT READS IS OF BULK AT MOST 1048576: true; the input reads as it did. -/
def fnExactFallsOfRodUptoRow : OpenClaim := { program := "ytiledncedekefaa", sum := "342964b9ed54ec28b1cd8ecdae4993655bc1ee1e11bf67e4fc9da35cb763e062", func := "loop.example/g01270/laws.FnExactFallsOfRod", spec := "fnExactFallsOfRod", unfollowed := true, recurses := true, apart := false, narrowed := true }
def FnExactFallsOfRodUptoSaid : Prop := fnExactFallsOfRodUptoRow.holds Try.pinned (OpenSpec.upto fnExactFallsOfRodSpec)

/-- 'laws.FnExactBestWays', WHERE WHAT IT READS IS OF BULK AT MOST 1048576: true; the input reads as it did. -/
def fnExactBestWaysUptoRow : OpenClaim := { program := "ytiledncedekefaa", sum := "342964b9ed54ec28b1cd8ecdae4993655bc1ee1e11bf67e4fc9da35cb763e062", func := "loop.example/g01270/laws.FnExactBestWays", spec := "fnExactBestWays", inPlace := ["internal/bytealg.MakeNoZero"], unfollowed := true, recurses := true, apart := false, narrowed := true }
def FnExactBestWaysUptoSaid : Prop := fnExactBestWaysUptoRow.holds Try.pinned (OpenSpec.upto fnExactBestWaysSpec)

end Rows
end Go.Proofs.Ytiledncedekefaa
