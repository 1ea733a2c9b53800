/-
  No cell of these rows narrows 'for every input' (looked for: loops, veiled, ifaces, maps, wideKeys, modest, calm, conditions, laid).
  DERIVED. THE GIVEN ROWS OF THIS SEAT. 15 by the template 'for every input the law returns true; each argument reads behind the call as it read before'; 0 by the template 'total and deterministic' (their statements: YtlepdphdflpoaaaTotals.lean).
  GIVEN WITH THE SEED: the statements are not yours to turn. If you find one false, say at which input.
  Laid BY PROGRAM, IN A SANDBOX (cutbox-rows.mjs): the forced cells as the released guide's own fill.sh prints them over the translation 03c91cacdf2d9a4f… (all of the seat's roots in one cut). By AI agents, Wed Nov 11 2026. No macro, syntax, notation, axiom, sorry.
-/
import Derived.Test.YtlepdphdflpoaaaChecked
import GoSem.Claim
import GoSem.ClaimJoined
import GoSem.ClaimMapViews
import Derived.JoinedTies
import Derived.KernelRfl
namespace Go.Proofs.Ytlepdphdflpoaaa
/- THE CELL 'sum', in the pinned program and in every row, IS THE sha256 OF THE DUMP (.gsa) THAT YtlepdphdflpoaaaProg.lean LOADS. Nothing in Lean hashes anything: it is a label: what it is worth is what the hold of that sum in a sandbox is worth. -/
noncomputable def Try.pinned : Pinned := { name := "ytlepdphdflpoaaa", sum := "03c91cacdf2d9a4fb5037f7af6b28a61d11c7def8a295588b1d63c63b2f08b5d", checked := Try.checked }
namespace Rows
def none {H : Type} : Left H := { results := [], args := [] }

/-- 'laws.FnExactAreRunners': WHATEVER THE INPUT: true; the input reads as it did. -/
def fnExactAreRunnersSpec : ChangeSpec := { name := "fnExactAreRunners", fn := fun _ => fun
  | [d] => { results := [.lit (.bool true)], args := [d] }
  | _ => none }
def fnExactAreRunnersRow : OpenClaim := { program := "ytlepdphdflpoaaa", sum := "03c91cacdf2d9a4fb5037f7af6b28a61d11c7def8a295588b1d63c63b2f08b5d", func := "loop.example/g01270/laws.FnExactAreRunners", spec := "fnExactAreRunners", apart := false }
def FnExactAreRunnersSaid : Prop := fnExactAreRunnersRow.holds Try.pinned (OpenSpec.ofChange fnExactAreRunnersSpec)

/-- ITS FALSE NEIGHBOUR: 'it returns false'. Refute it at one input. -/
def fnExactAreRunnersWrong : ChangeSpec := { name := "fnExactAreRunners", fn := fun _ => fun
  | [d] => { results := [.lit (.bool false)], args := [d] }
  | _ => none }
def FnExactAreRunnersWrongFalsely : Prop := fnExactAreRunnersRow.holds Try.pinned (OpenSpec.ofChange fnExactAreRunnersWrong)

/-- 'laws.FnExactIsMoment': WHATEVER THE INPUT: true; the input reads as it did. -/
def fnExactIsMomentSpec : ChangeSpec := { name := "fnExactIsMoment", fn := fun _ => fun
  | [d] => { results := [.lit (.bool true)], args := [d] }
  | _ => none }
def fnExactIsMomentRow : OpenClaim := { program := "ytlepdphdflpoaaa", sum := "03c91cacdf2d9a4fb5037f7af6b28a61d11c7def8a295588b1d63c63b2f08b5d", func := "loop.example/g01270/laws.FnExactIsMoment", spec := "fnExactIsMoment", apart := false }
def FnExactIsMomentSaid : Prop := fnExactIsMomentRow.holds Try.pinned (OpenSpec.ofChange fnExactIsMomentSpec)

/-- ITS FALSE NEIGHBOUR: 'it returns false'. Refute it at one input. -/
def fnExactIsMomentWrong : ChangeSpec := { name := "fnExactIsMoment", fn := fun _ => fun
  | [d] => { results := [.lit (.bool false)], args := [d] }
  | _ => none }
def FnExactIsMomentWrongFalsely : Prop := fnExactIsMomentRow.holds Try.pinned (OpenSpec.ofChange fnExactIsMomentWrong)

/-- 'laws.FnExactPlacesAt': WHATEVER THE INPUT: true; the input reads as it did. -/
def fnExactPlacesAtSpec : ChangeSpec := { name := "fnExactPlacesAt", fn := fun _ => fun
  | [d1, d2] => { results := [.lit (.bool true)], args := [d1, d2] }
  | _ => none }
def fnExactPlacesAtRow : OpenClaim := { program := "ytlepdphdflpoaaa", sum := "03c91cacdf2d9a4fb5037f7af6b28a61d11c7def8a295588b1d63c63b2f08b5d", func := "loop.example/g01270/laws.FnExactPlacesAt", spec := "fnExactPlacesAt", unfollowed := true, recurses := true, apart := false }
def FnExactPlacesAtSaid : Prop := fnExactPlacesAtRow.holds Try.pinned (OpenSpec.ofChange fnExactPlacesAtSpec)

/-- ITS FALSE NEIGHBOUR: 'it returns false'. Refute it at one input. -/
def fnExactPlacesAtWrong : ChangeSpec := { name := "fnExactPlacesAt", fn := fun _ => fun
  | [d1, d2] => { results := [.lit (.bool false)], args := [d1, d2] }
  | _ => none }
def FnExactPlacesAtWrongFalsely : Prop := fnExactPlacesAtRow.holds Try.pinned (OpenSpec.ofChange fnExactPlacesAtWrong)

/-- 'laws.FnExactPacesBehind': WHATEVER THE INPUT: true; the input reads as it did. -/
def fnExactPacesBehindSpec : ChangeSpec := { name := "fnExactPacesBehind", fn := fun _ => fun
  | [d1, d2] => { results := [.lit (.bool true)], args := [d1, d2] }
  | _ => none }
def fnExactPacesBehindRow : OpenClaim := { program := "ytlepdphdflpoaaa", sum := "03c91cacdf2d9a4fb5037f7af6b28a61d11c7def8a295588b1d63c63b2f08b5d", func := "loop.example/g01270/laws.FnExactPacesBehind", spec := "fnExactPacesBehind", unfollowed := true, recurses := true, apart := false }
def FnExactPacesBehindSaid : Prop := fnExactPacesBehindRow.holds Try.pinned (OpenSpec.ofChange fnExactPacesBehindSpec)

/-- ITS FALSE NEIGHBOUR: 'it returns false'. Refute it at one input. -/
def fnExactPacesBehindWrong : ChangeSpec := { name := "fnExactPacesBehind", fn := fun _ => fun
  | [d1, d2] => { results := [.lit (.bool false)], args := [d1, d2] }
  | _ => none }
def FnExactPacesBehindWrongFalsely : Prop := fnExactPacesBehindRow.holds Try.pinned (OpenSpec.ofChange fnExactPacesBehindWrong)

/-- 'laws.FnExactCountMeetsBy': WHATEVER THE INPUT: true; the input reads as it did. -/
def fnExactCountMeetsBySpec : ChangeSpec := { name := "fnExactCountMeetsBy", fn := fun _ => fun
  | [d1, d2] => { results := [.lit (.bool true)], args := [d1, d2] }
  | _ => none }
def fnExactCountMeetsByRow : OpenClaim := { program := "ytlepdphdflpoaaa", sum := "03c91cacdf2d9a4fb5037f7af6b28a61d11c7def8a295588b1d63c63b2f08b5d", func := "loop.example/g01270/laws.FnExactCountMeetsBy", spec := "fnExactCountMeetsBy", apart := false }
def FnExactCountMeetsBySaid : Prop := fnExactCountMeetsByRow.holds Try.pinned (OpenSpec.ofChange fnExactCountMeetsBySpec)

/-- ITS FALSE NEIGHBOUR: 'it returns false'. Refute it at one input. -/
def fnExactCountMeetsByWrong : ChangeSpec := { name := "fnExactCountMeetsBy", fn := fun _ => fun
  | [d1, d2] => { results := [.lit (.bool false)], args := [d1, d2] }
  | _ => none }
def FnExactCountMeetsByWrongFalsely : Prop := fnExactCountMeetsByRow.holds Try.pinned (OpenSpec.ofChange fnExactCountMeetsByWrong)

/-- 'laws.FnExactCountMeetsEver': WHATEVER THE INPUT: true; the input reads as it did. -/
def fnExactCountMeetsEverSpec : ChangeSpec := { name := "fnExactCountMeetsEver", fn := fun _ => fun
  | [d] => { results := [.lit (.bool true)], args := [d] }
  | _ => none }
def fnExactCountMeetsEverRow : OpenClaim := { program := "ytlepdphdflpoaaa", sum := "03c91cacdf2d9a4fb5037f7af6b28a61d11c7def8a295588b1d63c63b2f08b5d", func := "loop.example/g01270/laws.FnExactCountMeetsEver", spec := "fnExactCountMeetsEver", apart := false }
def FnExactCountMeetsEverSaid : Prop := fnExactCountMeetsEverRow.holds Try.pinned (OpenSpec.ofChange fnExactCountMeetsEverSpec)

/-- ITS FALSE NEIGHBOUR: 'it returns false'. Refute it at one input. -/
def fnExactCountMeetsEverWrong : ChangeSpec := { name := "fnExactCountMeetsEver", fn := fun _ => fun
  | [d] => { results := [.lit (.bool false)], args := [d] }
  | _ => none }
def FnExactCountMeetsEverWrongFalsely : Prop := fnExactCountMeetsEverRow.holds Try.pinned (OpenSpec.ofChange fnExactCountMeetsEverWrong)

/-- 'laws.FnExactFirstMeet': WHATEVER THE INPUT: true; the input reads as it did. -/
def fnExactFirstMeetSpec : ChangeSpec := { name := "fnExactFirstMeet", fn := fun _ => fun
  | [d] => { results := [.lit (.bool true)], args := [d] }
  | _ => none }
def fnExactFirstMeetRow : OpenClaim := { program := "ytlepdphdflpoaaa", sum := "03c91cacdf2d9a4fb5037f7af6b28a61d11c7def8a295588b1d63c63b2f08b5d", func := "loop.example/g01270/laws.FnExactFirstMeet", spec := "fnExactFirstMeet", unfollowed := true, recurses := true, apart := false }
def FnExactFirstMeetSaid : Prop := fnExactFirstMeetRow.holds Try.pinned (OpenSpec.ofChange fnExactFirstMeetSpec)

/-- ITS FALSE NEIGHBOUR: 'it returns false'. Refute it at one input. -/
def fnExactFirstMeetWrong : ChangeSpec := { name := "fnExactFirstMeet", fn := fun _ => fun
  | [d] => { results := [.lit (.bool false)], args := [d] }
  | _ => none }
def FnExactFirstMeetWrongFalsely : Prop := fnExactFirstMeetRow.holds Try.pinned (OpenSpec.ofChange fnExactFirstMeetWrong)

/-- 'laws.FnExactLastMeet': WHATEVER THE INPUT: true; the input reads as it did. -/
def fnExactLastMeetSpec : ChangeSpec := { name := "fnExactLastMeet", fn := fun _ => fun
  | [d] => { results := [.lit (.bool true)], args := [d] }
  | _ => none }
def fnExactLastMeetRow : OpenClaim := { program := "ytlepdphdflpoaaa", sum := "03c91cacdf2d9a4fb5037f7af6b28a61d11c7def8a295588b1d63c63b2f08b5d", func := "loop.example/g01270/laws.FnExactLastMeet", spec := "fnExactLastMeet", unfollowed := true, recurses := true, apart := false }
def FnExactLastMeetSaid : Prop := fnExactLastMeetRow.holds Try.pinned (OpenSpec.ofChange fnExactLastMeetSpec)

/-- ITS FALSE NEIGHBOUR: 'it returns false'. Refute it at one input. -/
def fnExactLastMeetWrong : ChangeSpec := { name := "fnExactLastMeet", fn := fun _ => fun
  | [d] => { results := [.lit (.bool false)], args := [d] }
  | _ => none }
def FnExactLastMeetWrongFalsely : Prop := fnExactLastMeetRow.holds Try.pinned (OpenSpec.ofChange fnExactLastMeetWrong)

/-- 'laws.FnExactMeetMoments': WHATEVER THE INPUT: true; the input reads as it did. -/
def fnExactMeetMomentsSpec : ChangeSpec := { name := "fnExactMeetMoments", fn := fun _ => fun
  | [d] => { results := [.lit (.bool true)], args := [d] }
  | _ => none }
def fnExactMeetMomentsRow : OpenClaim := { program := "ytlepdphdflpoaaa", sum := "03c91cacdf2d9a4fb5037f7af6b28a61d11c7def8a295588b1d63c63b2f08b5d", func := "loop.example/g01270/laws.FnExactMeetMoments", spec := "fnExactMeetMoments", unfollowed := true, recurses := true, apart := false }
def FnExactMeetMomentsSaid : Prop := fnExactMeetMomentsRow.holds Try.pinned (OpenSpec.ofChange fnExactMeetMomentsSpec)

/-- ITS FALSE NEIGHBOUR: 'it returns false'. Refute it at one input. -/
def fnExactMeetMomentsWrong : ChangeSpec := { name := "fnExactMeetMoments", fn := fun _ => fun
  | [d] => { results := [.lit (.bool false)], args := [d] }
  | _ => none }
def FnExactMeetMomentsWrongFalsely : Prop := fnExactMeetMomentsRow.holds Try.pinned (OpenSpec.ofChange fnExactMeetMomentsWrong)

/-- 'laws.FnExactFinalPaces': WHATEVER THE INPUT: true; the input reads as it did. -/
def fnExactFinalPacesSpec : ChangeSpec := { name := "fnExactFinalPaces", fn := fun _ => fun
  | [d] => { results := [.lit (.bool true)], args := [d] }
  | _ => none }
def fnExactFinalPacesRow : OpenClaim := { program := "ytlepdphdflpoaaa", sum := "03c91cacdf2d9a4fb5037f7af6b28a61d11c7def8a295588b1d63c63b2f08b5d", func := "loop.example/g01270/laws.FnExactFinalPaces", spec := "fnExactFinalPaces", recurses := true, apart := false }
def FnExactFinalPacesSaid : Prop := fnExactFinalPacesRow.holds Try.pinned (OpenSpec.ofChange fnExactFinalPacesSpec)

/-- ITS FALSE NEIGHBOUR: 'it returns false'. Refute it at one input. -/
def fnExactFinalPacesWrong : ChangeSpec := { name := "fnExactFinalPaces", fn := fun _ => fun
  | [d] => { results := [.lit (.bool false)], args := [d] }
  | _ => none }
def FnExactFinalPacesWrongFalsely : Prop := fnExactFinalPacesRow.holds Try.pinned (OpenSpec.ofChange fnExactFinalPacesWrong)

/-- 'laws.FnExactMeetsOf': WHATEVER THE INPUT: true; the input reads as it did. -/
def fnExactMeetsOfSpec : ChangeSpec := { name := "fnExactMeetsOf", fn := fun _ => fun
  | [d1, d2] => { results := [.lit (.bool true)], args := [d1, d2] }
  | _ => none }
def fnExactMeetsOfRow : OpenClaim := { program := "ytlepdphdflpoaaa", sum := "03c91cacdf2d9a4fb5037f7af6b28a61d11c7def8a295588b1d63c63b2f08b5d", func := "loop.example/g01270/laws.FnExactMeetsOf", spec := "fnExactMeetsOf", unfollowed := true, recurses := true, apart := false }
def FnExactMeetsOfSaid : Prop := fnExactMeetsOfRow.holds Try.pinned (OpenSpec.ofChange fnExactMeetsOfSpec)

/-- ITS FALSE NEIGHBOUR: 'it returns false'. Refute it at one input. -/
def fnExactMeetsOfWrong : ChangeSpec := { name := "fnExactMeetsOf", fn := fun _ => fun
  | [d1, d2] => { results := [.lit (.bool false)], args := [d1, d2] }
  | _ => none }
def FnExactMeetsOfWrongFalsely : Prop := fnExactMeetsOfRow.holds Try.pinned (OpenSpec.ofChange fnExactMeetsOfWrong)

/-- 'laws.FnExactMiddleAt': WHATEVER THE INPUT: true; the input reads as it did. -/
def fnExactMiddleAtSpec : ChangeSpec := { name := "fnExactMiddleAt", fn := fun _ => fun
  | [d1, d2] => { results := [.lit (.bool true)], args := [d1, d2] }
  | _ => none }
def fnExactMiddleAtRow : OpenClaim := { program := "ytlepdphdflpoaaa", sum := "03c91cacdf2d9a4fb5037f7af6b28a61d11c7def8a295588b1d63c63b2f08b5d", func := "loop.example/g01270/laws.FnExactMiddleAt", spec := "fnExactMiddleAt", apart := false }
def FnExactMiddleAtSaid : Prop := fnExactMiddleAtRow.holds Try.pinned (OpenSpec.ofChange fnExactMiddleAtSpec)

/-- ITS FALSE NEIGHBOUR: 'it returns false'. Refute it at one input. -/
def fnExactMiddleAtWrong : ChangeSpec := { name := "fnExactMiddleAt", fn := fun _ => fun
  | [d1, d2] => { results := [.lit (.bool false)], args := [d1, d2] }
  | _ => none }
def FnExactMiddleAtWrongFalsely : Prop := fnExactMiddleAtRow.holds Try.pinned (OpenSpec.ofChange fnExactMiddleAtWrong)

/-- 'laws.FnExactKeptSums': WHATEVER THE INPUT: true; the input reads as it did. -/
def fnExactKeptSumsSpec : ChangeSpec := { name := "fnExactKeptSums", fn := fun _ => fun
  | [d] => { results := [.lit (.bool true)], args := [d] }
  | _ => none }
def fnExactKeptSumsRow : OpenClaim := { program := "ytlepdphdflpoaaa", sum := "03c91cacdf2d9a4fb5037f7af6b28a61d11c7def8a295588b1d63c63b2f08b5d", func := "loop.example/g01270/laws.FnExactKeptSums", spec := "fnExactKeptSums", apart := false }
def FnExactKeptSumsSaid : Prop := fnExactKeptSumsRow.holds Try.pinned (OpenSpec.ofChange fnExactKeptSumsSpec)

/-- ITS FALSE NEIGHBOUR: 'it returns false'. Refute it at one input. -/
def fnExactKeptSumsWrong : ChangeSpec := { name := "fnExactKeptSums", fn := fun _ => fun
  | [d] => { results := [.lit (.bool false)], args := [d] }
  | _ => none }
def FnExactKeptSumsWrongFalsely : Prop := fnExactKeptSumsRow.holds Try.pinned (OpenSpec.ofChange fnExactKeptSumsWrong)

/-- 'laws.FnExactWatchFrom': WHATEVER THE INPUT: true; the input reads as it did. -/
def fnExactWatchFromSpec : ChangeSpec := { name := "fnExactWatchFrom", fn := fun _ => fun
  | [d1, d2] => { results := [.lit (.bool true)], args := [d1, d2] }
  | _ => none }
def fnExactWatchFromRow : OpenClaim := { program := "ytlepdphdflpoaaa", sum := "03c91cacdf2d9a4fb5037f7af6b28a61d11c7def8a295588b1d63c63b2f08b5d", func := "loop.example/g01270/laws.FnExactWatchFrom", spec := "fnExactWatchFrom", apart := false }
def FnExactWatchFromSaid : Prop := fnExactWatchFromRow.holds Try.pinned (OpenSpec.ofChange fnExactWatchFromSpec)

/-- ITS FALSE NEIGHBOUR: 'it returns false'. Refute it at one input. -/
def fnExactWatchFromWrong : ChangeSpec := { name := "fnExactWatchFrom", fn := fun _ => fun
  | [d1, d2] => { results := [.lit (.bool false)], args := [d1, d2] }
  | _ => none }
def FnExactWatchFromWrongFalsely : Prop := fnExactWatchFromRow.holds Try.pinned (OpenSpec.ofChange fnExactWatchFromWrong)

/-- 'laws.FnExactFromBehind': WHATEVER THE INPUT: true; the input reads as it did. -/
def fnExactFromBehindSpec : ChangeSpec := { name := "fnExactFromBehind", fn := fun _ => fun
  | [d] => { results := [.lit (.bool true)], args := [d] }
  | _ => none }
def fnExactFromBehindRow : OpenClaim := { program := "ytlepdphdflpoaaa", sum := "03c91cacdf2d9a4fb5037f7af6b28a61d11c7def8a295588b1d63c63b2f08b5d", func := "loop.example/g01270/laws.FnExactFromBehind", spec := "fnExactFromBehind", apart := false }
def FnExactFromBehindSaid : Prop := fnExactFromBehindRow.holds Try.pinned (OpenSpec.ofChange fnExactFromBehindSpec)

/-- ITS FALSE NEIGHBOUR: 'it returns false'. Refute it at one input. -/
def fnExactFromBehindWrong : ChangeSpec := { name := "fnExactFromBehind", fn := fun _ => fun
  | [d] => { results := [.lit (.bool false)], args := [d] }
  | _ => none }
def FnExactFromBehindWrongFalsely : Prop := fnExactFromBehindRow.holds Try.pinned (OpenSpec.ofChange fnExactFromBehindWrong)

/- THE SECOND FORM. 'bulk': how many values and letters a reading holds, each counted each time it is reached (what is shared counts as often as it is met; a slice's spare places count too). A statement '..UptoSaid' is the law's where the arguments, and the package variables that the reading takes, are together of bulk at most 1048576: NARROWER than '..Said'. Prove '..Said' where nothing that the law and all that it calls make is longer than what came in: it says more and counts as full. Else prove '..UptoSaid'. A law counts once. -/
mutual
def uptoBulk {H : Type} : DataW H → Nat
  | .lit (.string bytes) => bytes.length + 1
  | .lit _ => 1
  | .nil => 1
  | .ptr d => uptoBulk d + 1
  | .slice elems spare => uptoBulkAll elems + uptoBulkAll spare + 1
  | .agg parts => uptoBulkAll parts + 1
  | .iface _ d => uptoBulk d + 1
  | .map entries => uptoBulkEntries entries + 1
  | .held _ => 1
def uptoBulkAll {H : Type} : List (DataW H) → Nat
  | [] => 0
  | d :: r => uptoBulk d + uptoBulkAll r
def uptoBulkEntries {H : Type} : List (Lit × DataW H) → Nat
  | [] => 0
  | x :: r => uptoBulkEntry x + uptoBulkEntries r
def uptoBulkEntry {H : Type} : Lit × DataW H → Nat
  | (.string bytes, d) => bytes.length + uptoBulk d + 1
  | (_, d) => uptoBulk d + 1
 end
def uptoSmall : (H : Type) → List (DataW H) → Bool := fun _ ds => decide (uptoBulkAll ds ≤ 1048576)
def OpenSpec.upto (s : _root_.Go.ChangeSpec) : _root_.Go.OpenSpec := { _root_.Go.OpenSpec.ofChange s with cond := some uptoSmall }

/-- 'laws.FnExactAreRunners', WHERE WHAT IT READS IS OF BULK AT MOST 1048576: true; the input reads as it did. -/
def fnExactAreRunnersUptoRow : OpenClaim := { program := "ytlepdphdflpoaaa", sum := "03c91cacdf2d9a4fb5037f7af6b28a61d11c7def8a295588b1d63c63b2f08b5d", func := "loop.example/g01270/laws.FnExactAreRunners", spec := "fnExactAreRunners", apart := false, narrowed := true }
def FnExactAreRunnersUptoSaid : Prop := fnExactAreRunnersUptoRow.holds Try.pinned (OpenSpec.upto fnExactAreRunnersSpec)

/-- 'laws.FnExactIsMoment', WHERE WHAT IT READS IS OF BULK AT MOST 1048576: true; the input reads as it did. -/
def fnExactIsMomentUptoRow : OpenClaim := { program := "ytlepdphdflpoaaa", sum := "03c91cacdf2d9a4fb5037f7af6b28a61d11c7def8a295588b1d63c63b2f08b5d", func := "loop.example/g01270/laws.FnExactIsMoment", spec := "fnExactIsMoment", apart := false, narrowed := true }
def FnExactIsMomentUptoSaid : Prop := fnExactIsMomentUptoRow.holds Try.pinned (OpenSpec.upto fnExactIsMomentSpec)

/-- 'laws.FnExactPlacesAt', WHERE WHAT IT READS IS OF BULK AT MOST 1048576: true; the input reads as it did. -/
def fnExactPlacesAtUptoRow : OpenClaim := { program := "ytlepdphdflpoaaa", sum := "03c91cacdf2d9a4fb5037f7af6b28a61d11c7def8a295588b1d63c63b2f08b5d", func := "loop.example/g01270/laws.FnExactPlacesAt", spec := "fnExactPlacesAt", unfollowed := true, recurses := true, apart := false, narrowed := true }
def FnExactPlacesAtUptoSaid : Prop := fnExactPlacesAtUptoRow.holds Try.pinned (OpenSpec.upto fnExactPlacesAtSpec)

/-- 'laws.FnExactPacesBehind', WHERE WHAT IT READS IS OF BULK AT MOST 1048576: true; the input reads as it did. -/
def fnExactPacesBehindUptoRow : OpenClaim := { program := "ytlepdphdflpoaaa", sum := "03c91cacdf2d9a4fb5037f7af6b28a61d11c7def8a295588b1d63c63b2f08b5d", func := "loop.example/g01270/laws.FnExactPacesBehind", spec := "fnExactPacesBehind", unfollowed := true, recurses := true, apart := false, narrowed := true }
def FnExactPacesBehindUptoSaid : Prop := fnExactPacesBehindUptoRow.holds Try.pinned (OpenSpec.upto fnExactPacesBehindSpec)

/-- 'laws.FnExactCountMeetsBy', WHERE WHAT IT READS IS OF BULK AT MOST 1048576: true; the input reads as it did. -/
def fnExactCountMeetsByUptoRow : OpenClaim := { program := "ytlepdphdflpoaaa", sum := "03c91cacdf2d9a4fb5037f7af6b28a61d11c7def8a295588b1d63c63b2f08b5d", func := "loop.example/g01270/laws.FnExactCountMeetsBy", spec := "fnExactCountMeetsBy", apart := false, narrowed := true }
def FnExactCountMeetsByUptoSaid : Prop := fnExactCountMeetsByUptoRow.holds Try.pinned (OpenSpec.upto fnExactCountMeetsBySpec)

/-- 'laws.FnExactCountMeetsEver', WHERE WHAT IT READS IS OF BULK AT MOST 1048576: true; the input reads as it did. -/
def fnExactCountMeetsEverUptoRow : OpenClaim := { program := "ytlepdphdflpoaaa", sum := "03c91cacdf2d9a4fb5037f7af6b28a61d11c7def8a295588b1d63c63b2f08b5d", func := "loop.example/g01270/laws.FnExactCountMeetsEver", spec := "fnExactCountMeetsEver", apart := false, narrowed := true }
def FnExactCountMeetsEverUptoSaid : Prop := fnExactCountMeetsEverUptoRow.holds Try.pinned (OpenSpec.upto fnExactCountMeetsEverSpec)

/-- 'laws.FnExactFirstMeet', WHERE WHAT IT READS IS OF BULK AT MOST 1048576: true; the input reads as it did. -/
def fnExactFirstMeetUptoRow : OpenClaim := { program := "ytlepdphdflpoaaa", sum := "03c91cacdf2d9a4fb5037f7af6b28a61d11c7def8a295588b1d63c63b2f08b5d", func := "loop.example/g01270/laws.FnExactFirstMeet", spec := "fnExactFirstMeet", unfollowed := true, recurses := true, apart := false, narrowed := true }
def FnExactFirstMeetUptoSaid : Prop := fnExactFirstMeetUptoRow.holds Try.pinned (OpenSpec.upto fnExactFirstMeetSpec)

/-- 'laws.FnExactLastMeet', WHERE WHAT IT READS IS OF BULK AT MOST 1048576: true; the input reads as it did. -/
def fnExactLastMeetUptoRow : OpenClaim := { program := "ytlepdphdflpoaaa", sum := "03c91cacdf2d9a4fb5037f7af6b28a61d11c7def8a295588b1d63c63b2f08b5d", func := "loop.example/g01270/laws.FnExactLastMeet", spec := "fnExactLastMeet", unfollowed := true, recurses := true, apart := false, narrowed := true }
def FnExactLastMeetUptoSaid : Prop := fnExactLastMeetUptoRow.holds Try.pinned (OpenSpec.upto fnExactLastMeetSpec)

/-- 'laws.FnExactMeetMoments', WHERE WHAT IT READS IS OF BULK AT MOST 1048576: true; the input reads as it did. -/
def fnExactMeetMomentsUptoRow : OpenClaim := { program := "ytlepdphdflpoaaa", sum := "03c91cacdf2d9a4fb5037f7af6b28a61d11c7def8a295588b1d63c63b2f08b5d", func := "loop.example/g01270/laws.FnExactMeetMoments", spec := "fnExactMeetMoments", unfollowed := true, recurses := true, apart := false, narrowed := true }
def FnExactMeetMomentsUptoSaid : Prop := fnExactMeetMomentsUptoRow.holds Try.pinned (OpenSpec.upto fnExactMeetMomentsSpec)

/-- 'laws.FnExactFinalPaces', WHERE WHAT IT READS IS OF BULK AT MOST 1048576: true; the input reads as it did. -/
def fnExactFinalPacesUptoRow : OpenClaim := { program := "ytlepdphdflpoaaa", sum := "03c91cacdf2d9a4fb5037f7af6b28a61d11c7def8a295588b1d63c63b2f08b5d", func := "loop.example/g01270/laws.FnExactFinalPaces", spec := "fnExactFinalPaces", recurses := true, apart := false, narrowed := true }
def FnExactFinalPacesUptoSaid : Prop := fnExactFinalPacesUptoRow.holds Try.pinned (OpenSpec.upto fnExactFinalPacesSpec)

/-- 'laws.FnExactMeetsOf', WHERE WHAT IT READS IS OF BULK AT MOST 1048576: true; the input reads as it did. -/
def fnExactMeetsOfUptoRow : OpenClaim := { program := "ytlepdphdflpoaaa", sum := "03c91cacdf2d9a4fb5037f7af6b28a61d11c7def8a295588b1d63c63b2f08b5d", func := "loop.example/g01270/laws.FnExactMeetsOf", spec := "fnExactMeetsOf", unfollowed := true, recurses := true, apart := false, narrowed := true }
def FnExactMeetsOfUptoSaid : Prop := fnExactMeetsOfUptoRow.holds Try.pinned (OpenSpec.upto fnExactMeetsOfSpec)

/-- 'laws.FnExactMiddleAt', WHERE WHAT IT READS IS OF BULK AT MOST 1048576: true; the input reads as it did. -/
def fnExactMiddleAtUptoRow : OpenClaim := { program := "ytlepdphdflpoaaa", sum := "03c91cacdf2d9a4fb5037f7af6b28a61d11c7def8a295588b1d63c63b2f08b5d", func := "loop.example/g01270/laws.FnExactMiddleAt", spec := "fnExactMiddleAt", apart := false, narrowed := true }
def FnExactMiddleAtUptoSaid : Prop := fnExactMiddleAtUptoRow.holds Try.pinned (OpenSpec.upto fnExactMiddleAtSpec)

/-- 'laws.FnExactKeptSums', WHERE WHAT IT READS IS OF BULK AT MOST 1048576: true; the input reads as it did. -/
def fnExactKeptSumsUptoRow : OpenClaim := { program := "ytlepdphdflpoaaa", sum := "03c91cacdf2d9a4fb5037f7af6b28a61d11c7def8a295588b1d63c63b2f08b5d", func := "loop.example/g01270/laws.FnExactKeptSums", spec := "fnExactKeptSums", apart := false, narrowed := true }
def FnExactKeptSumsUptoSaid : Prop := fnExactKeptSumsUptoRow.holds Try.pinned (OpenSpec.upto fnExactKeptSumsSpec)

/-- 'laws.FnExactWatchFrom', WHERE WHAT IT READS IS OF BULK AT MOST 1048576: true; the input reads as it did. -/
def fnExactWatchFromUptoRow : OpenClaim := { program := "ytlepdphdflpoaaa", sum := "03c91cacdf2d9a4fb5037f7af6b28a61d11c7def8a295588b1d63c63b2f08b5d", func := "loop.example/g01270/laws.FnExactWatchFrom", spec := "fnExactWatchFrom", apart := false, narrowed := true }
def FnExactWatchFromUptoSaid : Prop := fnExactWatchFromUptoRow.holds Try.pinned (OpenSpec.upto fnExactWatchFromSpec)

/-- 'laws.FnExactFromBehind', WHERE WHAT IT READS IS OF BULK AT MOST 1048576: true; the input reads as it did. -/
def fnExactFromBehindUptoRow : OpenClaim := { program := "ytlepdphdflpoaaa", sum := "03c91cacdf2d9a4fb5037f7af6b28a61d11c7def8a295588b1d63c63b2f08b5d", func := "loop.example/g01270/laws.FnExactFromBehind", spec := "fnExactFromBehind", apart := false, narrowed := true }
def FnExactFromBehindUptoSaid : Prop := fnExactFromBehindUptoRow.holds Try.pinned (OpenSpec.upto fnExactFromBehindSpec)

end Rows
end Go.Proofs.Ytlepdphdflpoaaa
