/-
  No cell of these rows narrows 'for every input' (looked for: loops, veiled, ifaces, maps, wideKeys, modest, calm, conditions, laid).
  DERIVED. THE GIVEN ROWS OF THIS SEAT. 11 by the template 'for every input the law returns true; each argument reads behind the call as it read before'; 0 by the template 'total and deterministic' (their statements: YtdgcdlcfddjmiaaTotals.lean).
  GIVEN WITH THE SEED: the statements are not yours to turn. If you find one false, say at which input.
  Laid BY PROGRAM, IN A SANDBOX (cutbox-rows.mjs): the forced cells as the released guide's own fill.sh prints them over the translation fbe09a30599a8b26… (all of the seat's roots in one cut). By AI agents, Wed Nov 11 2026. No macro, syntax, notation, axiom, sorry.
-/
import Derived.Test.YtdgcdlcfddjmiaaChecked
import GoSem.Claim
import GoSem.ClaimJoined
import GoSem.ClaimMapViews
import Derived.JoinedTies
import Derived.KernelRfl
namespace Go.Proofs.Ytdgcdlcfddjmiaa
/- THE CELL 'sum', in the pinned program and in every row, IS THE sha256 OF THE DUMP (.gsa) THAT YtdgcdlcfddjmiaaProg.lean LOADS. Nothing in Lean hashes anything: it is a label: what it is worth is what the hold of that sum in a sandbox is worth. -/
noncomputable def Try.pinned : Pinned := { name := "ytdgcdlcfddjmiaa", sum := "fbe09a30599a8b26709e28d0c16f0d1cd26b77bcd45501eb0a63154a7d4f6ffc", checked := Try.checked }
namespace Rows
def none {H : Type} : Left H := { results := [], args := [] }

/-- 'laws.FnExactMeetingsOf': WHATEVER THE INPUT: true; the input reads as it did. -/
def fnExactMeetingsOfSpec : ChangeSpec := { name := "fnExactMeetingsOf", fn := fun _ => fun
  | [d] => { results := [.lit (.bool true)], args := [d] }
  | _ => none }
def fnExactMeetingsOfRow : OpenClaim := { program := "ytdgcdlcfddjmiaa", sum := "fbe09a30599a8b26709e28d0c16f0d1cd26b77bcd45501eb0a63154a7d4f6ffc", func := "loop.example/g01270/laws.FnExactMeetingsOf", spec := "fnExactMeetingsOf", unfollowed := true, recurses := true, apart := false }
def FnExactMeetingsOfSaid : Prop := fnExactMeetingsOfRow.holds Try.pinned (OpenSpec.ofChange fnExactMeetingsOfSpec)

/-- ITS FALSE NEIGHBOUR: 'it returns false'. Refute it at one input. -/
def fnExactMeetingsOfWrong : ChangeSpec := { name := "fnExactMeetingsOf", fn := fun _ => fun
  | [d] => { results := [.lit (.bool false)], args := [d] }
  | _ => none }
def FnExactMeetingsOfWrongFalsely : Prop := fnExactMeetingsOfRow.holds Try.pinned (OpenSpec.ofChange fnExactMeetingsOfWrong)

/-- 'laws.FnExactMeetingsBy': WHATEVER THE INPUT: true; the input reads as it did. -/
def fnExactMeetingsBySpec : ChangeSpec := { name := "fnExactMeetingsBy", fn := fun _ => fun
  | [d1, d2] => { results := [.lit (.bool true)], args := [d1, d2] }
  | _ => none }
def fnExactMeetingsByRow : OpenClaim := { program := "ytdgcdlcfddjmiaa", sum := "fbe09a30599a8b26709e28d0c16f0d1cd26b77bcd45501eb0a63154a7d4f6ffc", func := "loop.example/g01270/laws.FnExactMeetingsBy", spec := "fnExactMeetingsBy", unfollowed := true, recurses := true, apart := false }
def FnExactMeetingsBySaid : Prop := fnExactMeetingsByRow.holds Try.pinned (OpenSpec.ofChange fnExactMeetingsBySpec)

/-- ITS FALSE NEIGHBOUR: 'it returns false'. Refute it at one input. -/
def fnExactMeetingsByWrong : ChangeSpec := { name := "fnExactMeetingsBy", fn := fun _ => fun
  | [d1, d2] => { results := [.lit (.bool false)], args := [d1, d2] }
  | _ => none }
def FnExactMeetingsByWrongFalsely : Prop := fnExactMeetingsByRow.holds Try.pinned (OpenSpec.ofChange fnExactMeetingsByWrong)

/-- 'laws.FnExactFirstMeeting': WHATEVER THE INPUT: true; the input reads as it did. -/
def fnExactFirstMeetingSpec : ChangeSpec := { name := "fnExactFirstMeeting", fn := fun _ => fun
  | [d] => { results := [.lit (.bool true)], args := [d] }
  | _ => none }
def fnExactFirstMeetingRow : OpenClaim := { program := "ytdgcdlcfddjmiaa", sum := "fbe09a30599a8b26709e28d0c16f0d1cd26b77bcd45501eb0a63154a7d4f6ffc", func := "loop.example/g01270/laws.FnExactFirstMeeting", spec := "fnExactFirstMeeting", unfollowed := true, recurses := true, apart := false }
def FnExactFirstMeetingSaid : Prop := fnExactFirstMeetingRow.holds Try.pinned (OpenSpec.ofChange fnExactFirstMeetingSpec)

/-- ITS FALSE NEIGHBOUR: 'it returns false'. Refute it at one input. -/
def fnExactFirstMeetingWrong : ChangeSpec := { name := "fnExactFirstMeeting", fn := fun _ => fun
  | [d] => { results := [.lit (.bool false)], args := [d] }
  | _ => none }
def FnExactFirstMeetingWrongFalsely : Prop := fnExactFirstMeetingRow.holds Try.pinned (OpenSpec.ofChange fnExactFirstMeetingWrong)

/-- 'laws.FnExactLastMeeting': WHATEVER THE INPUT: true; the input reads as it did. -/
def fnExactLastMeetingSpec : ChangeSpec := { name := "fnExactLastMeeting", fn := fun _ => fun
  | [d] => { results := [.lit (.bool true)], args := [d] }
  | _ => none }
def fnExactLastMeetingRow : OpenClaim := { program := "ytdgcdlcfddjmiaa", sum := "fbe09a30599a8b26709e28d0c16f0d1cd26b77bcd45501eb0a63154a7d4f6ffc", func := "loop.example/g01270/laws.FnExactLastMeeting", spec := "fnExactLastMeeting", unfollowed := true, recurses := true, apart := false }
def FnExactLastMeetingSaid : Prop := fnExactLastMeetingRow.holds Try.pinned (OpenSpec.ofChange fnExactLastMeetingSpec)

/-- ITS FALSE NEIGHBOUR: 'it returns false'. Refute it at one input. -/
def fnExactLastMeetingWrong : ChangeSpec := { name := "fnExactLastMeeting", fn := fun _ => fun
  | [d] => { results := [.lit (.bool false)], args := [d] }
  | _ => none }
def FnExactLastMeetingWrongFalsely : Prop := fnExactLastMeetingRow.holds Try.pinned (OpenSpec.ofChange fnExactLastMeetingWrong)

/-- 'laws.FnExactMeetingsOfAnt': WHATEVER THE INPUT: true; the input reads as it did. -/
def fnExactMeetingsOfAntSpec : ChangeSpec := { name := "fnExactMeetingsOfAnt", fn := fun _ => fun
  | [d1, d2] => { results := [.lit (.bool true)], args := [d1, d2] }
  | _ => none }
def fnExactMeetingsOfAntRow : OpenClaim := { program := "ytdgcdlcfddjmiaa", sum := "fbe09a30599a8b26709e28d0c16f0d1cd26b77bcd45501eb0a63154a7d4f6ffc", func := "loop.example/g01270/laws.FnExactMeetingsOfAnt", spec := "fnExactMeetingsOfAnt", unfollowed := true, recurses := true, apart := false }
def FnExactMeetingsOfAntSaid : Prop := fnExactMeetingsOfAntRow.holds Try.pinned (OpenSpec.ofChange fnExactMeetingsOfAntSpec)

/-- ITS FALSE NEIGHBOUR: 'it returns false'. Refute it at one input. -/
def fnExactMeetingsOfAntWrong : ChangeSpec := { name := "fnExactMeetingsOfAnt", fn := fun _ => fun
  | [d1, d2] => { results := [.lit (.bool false)], args := [d1, d2] }
  | _ => none }
def FnExactMeetingsOfAntWrongFalsely : Prop := fnExactMeetingsOfAntRow.holds Try.pinned (OpenSpec.ofChange fnExactMeetingsOfAntWrong)

/-- 'laws.FnExactCountOfAnts': WHATEVER THE INPUT: true; the input reads as it did. -/
def fnExactCountOfAntsSpec : ChangeSpec := { name := "fnExactCountOfAnts", fn := fun _ => fun
  | [d] => { results := [.lit (.bool true)], args := [d] }
  | _ => none }
def fnExactCountOfAntsRow : OpenClaim := { program := "ytdgcdlcfddjmiaa", sum := "fbe09a30599a8b26709e28d0c16f0d1cd26b77bcd45501eb0a63154a7d4f6ffc", func := "loop.example/g01270/laws.FnExactCountOfAnts", spec := "fnExactCountOfAnts", unfollowed := true, recurses := true, apart := false }
def FnExactCountOfAntsSaid : Prop := fnExactCountOfAntsRow.holds Try.pinned (OpenSpec.ofChange fnExactCountOfAntsSpec)

/-- ITS FALSE NEIGHBOUR: 'it returns false'. Refute it at one input. -/
def fnExactCountOfAntsWrong : ChangeSpec := { name := "fnExactCountOfAnts", fn := fun _ => fun
  | [d] => { results := [.lit (.bool false)], args := [d] }
  | _ => none }
def FnExactCountOfAntsWrongFalsely : Prop := fnExactCountOfAntsRow.holds Try.pinned (OpenSpec.ofChange fnExactCountOfAntsWrong)

/-- 'laws.FnExactCornersOf': WHATEVER THE INPUT: true; the input reads as it did. -/
def fnExactCornersOfSpec : ChangeSpec := { name := "fnExactCornersOf", fn := fun _ => fun
  | [d1, d2] => { results := [.lit (.bool true)], args := [d1, d2] }
  | _ => none }
def fnExactCornersOfRow : OpenClaim := { program := "ytdgcdlcfddjmiaa", sum := "fbe09a30599a8b26709e28d0c16f0d1cd26b77bcd45501eb0a63154a7d4f6ffc", func := "loop.example/g01270/laws.FnExactCornersOf", spec := "fnExactCornersOf", unfollowed := true, recurses := true, apart := false }
def FnExactCornersOfSaid : Prop := fnExactCornersOfRow.holds Try.pinned (OpenSpec.ofChange fnExactCornersOfSpec)

/-- ITS FALSE NEIGHBOUR: 'it returns false'. Refute it at one input. -/
def fnExactCornersOfWrong : ChangeSpec := { name := "fnExactCornersOf", fn := fun _ => fun
  | [d1, d2] => { results := [.lit (.bool false)], args := [d1, d2] }
  | _ => none }
def FnExactCornersOfWrongFalsely : Prop := fnExactCornersOfRow.holds Try.pinned (OpenSpec.ofChange fnExactCornersOfWrong)

/-- 'laws.FnExactWayWalked': WHATEVER THE INPUT: true; the input reads as it did. -/
def fnExactWayWalkedSpec : ChangeSpec := { name := "fnExactWayWalked", fn := fun _ => fun
  | [d1, d2] => { results := [.lit (.bool true)], args := [d1, d2] }
  | _ => none }
def fnExactWayWalkedRow : OpenClaim := { program := "ytdgcdlcfddjmiaa", sum := "fbe09a30599a8b26709e28d0c16f0d1cd26b77bcd45501eb0a63154a7d4f6ffc", func := "loop.example/g01270/laws.FnExactWayWalked", spec := "fnExactWayWalked", unfollowed := true, recurses := true, apart := false }
def FnExactWayWalkedSaid : Prop := fnExactWayWalkedRow.holds Try.pinned (OpenSpec.ofChange fnExactWayWalkedSpec)

/-- ITS FALSE NEIGHBOUR: 'it returns false'. Refute it at one input. -/
def fnExactWayWalkedWrong : ChangeSpec := { name := "fnExactWayWalked", fn := fun _ => fun
  | [d1, d2] => { results := [.lit (.bool false)], args := [d1, d2] }
  | _ => none }
def FnExactWayWalkedWrongFalsely : Prop := fnExactWayWalkedRow.holds Try.pinned (OpenSpec.ofChange fnExactWayWalkedWrong)

/-- 'laws.FnExactNeverMeet': WHATEVER THE INPUT: true; the input reads as it did. -/
def fnExactNeverMeetSpec : ChangeSpec := { name := "fnExactNeverMeet", fn := fun _ => fun
  | [d] => { results := [.lit (.bool true)], args := [d] }
  | _ => none }
def fnExactNeverMeetRow : OpenClaim := { program := "ytdgcdlcfddjmiaa", sum := "fbe09a30599a8b26709e28d0c16f0d1cd26b77bcd45501eb0a63154a7d4f6ffc", func := "loop.example/g01270/laws.FnExactNeverMeet", spec := "fnExactNeverMeet", unfollowed := true, recurses := true, apart := false }
def FnExactNeverMeetSaid : Prop := fnExactNeverMeetRow.holds Try.pinned (OpenSpec.ofChange fnExactNeverMeetSpec)

/-- ITS FALSE NEIGHBOUR: 'it returns false'. Refute it at one input. -/
def fnExactNeverMeetWrong : ChangeSpec := { name := "fnExactNeverMeet", fn := fun _ => fun
  | [d] => { results := [.lit (.bool false)], args := [d] }
  | _ => none }
def FnExactNeverMeetWrongFalsely : Prop := fnExactNeverMeetRow.holds Try.pinned (OpenSpec.ofChange fnExactNeverMeetWrong)

/-- 'laws.FnExactMeetAtOnce': WHATEVER THE INPUT: true; the input reads as it did. -/
def fnExactMeetAtOnceSpec : ChangeSpec := { name := "fnExactMeetAtOnce", fn := fun _ => fun
  | [d] => { results := [.lit (.bool true)], args := [d] }
  | _ => none }
def fnExactMeetAtOnceRow : OpenClaim := { program := "ytdgcdlcfddjmiaa", sum := "fbe09a30599a8b26709e28d0c16f0d1cd26b77bcd45501eb0a63154a7d4f6ffc", func := "loop.example/g01270/laws.FnExactMeetAtOnce", spec := "fnExactMeetAtOnce", unfollowed := true, recurses := true, apart := false }
def FnExactMeetAtOnceSaid : Prop := fnExactMeetAtOnceRow.holds Try.pinned (OpenSpec.ofChange fnExactMeetAtOnceSpec)

/-- ITS FALSE NEIGHBOUR: 'it returns false'. Refute it at one input. -/
def fnExactMeetAtOnceWrong : ChangeSpec := { name := "fnExactMeetAtOnce", fn := fun _ => fun
  | [d] => { results := [.lit (.bool false)], args := [d] }
  | _ => none }
def FnExactMeetAtOnceWrongFalsely : Prop := fnExactMeetAtOnceRow.holds Try.pinned (OpenSpec.ofChange fnExactMeetAtOnceWrong)

/-- 'laws.FnExactPlacesOfMeetings': WHATEVER THE INPUT: true; the input reads as it did. -/
def fnExactPlacesOfMeetingsSpec : ChangeSpec := { name := "fnExactPlacesOfMeetings", fn := fun _ => fun
  | [d] => { results := [.lit (.bool true)], args := [d] }
  | _ => none }
def fnExactPlacesOfMeetingsRow : OpenClaim := { program := "ytdgcdlcfddjmiaa", sum := "fbe09a30599a8b26709e28d0c16f0d1cd26b77bcd45501eb0a63154a7d4f6ffc", func := "loop.example/g01270/laws.FnExactPlacesOfMeetings", spec := "fnExactPlacesOfMeetings", unfollowed := true, recurses := true, apart := false }
def FnExactPlacesOfMeetingsSaid : Prop := fnExactPlacesOfMeetingsRow.holds Try.pinned (OpenSpec.ofChange fnExactPlacesOfMeetingsSpec)

/-- ITS FALSE NEIGHBOUR: 'it returns false'. Refute it at one input. -/
def fnExactPlacesOfMeetingsWrong : ChangeSpec := { name := "fnExactPlacesOfMeetings", fn := fun _ => fun
  | [d] => { results := [.lit (.bool false)], args := [d] }
  | _ => none }
def FnExactPlacesOfMeetingsWrongFalsely : Prop := fnExactPlacesOfMeetingsRow.holds Try.pinned (OpenSpec.ofChange fnExactPlacesOfMeetingsWrong)

/- THE SECOND FORM. 'bulk': how many values and letters a reading holds, each counted each time it is reached (what is shared counts as often as it is met; a slice's spare places count too). A statement '..UptoSaid' is the law's where the arguments, and the package variables that the reading takes, are together of bulk at most 1048576: NARROWER than '..Said'. Prove '..Said' where nothing that the law and all that it calls make is longer than what came in: it says more and counts as full. Else prove '..UptoSaid'. A law counts once. -/
mutual
def uptoBulk {H : Type} : DataW H → Nat
  | .lit (.string bytes) => bytes.length + 1
  | .lit _ => 1
  | .nil => 1
  | .ptr d => uptoBulk d + 1
  | .slice elems spare => uptoBulkAll elems + uptoBulkAll spare + 1
  | .agg parts => uptoBulkAll parts + 1
  | .iface _ d => uptoBulk d + 1
  | .map entries => uptoBulkEntries entries + 1
  | .held _ => 1
def uptoBulkAll {H : Type} : List (DataW H) → Nat
  | [] => 0
  | d :: r => uptoBulk d + uptoBulkAll r
def uptoBulkEntries {H : Type} : List (Lit × DataW H) → Nat
  | [] => 0
  | x :: r => uptoBulkEntry x + uptoBulkEntries r
def uptoBulkEntry {H : Type} : Lit × DataW H → Nat
  | (.string bytes, d) => bytes.length + uptoBulk d + 1
  | (_, d) => uptoBulk d + 1
 end
def uptoSmall : (H : Type) → List (DataW H) → Bool := fun _ ds => decide (uptoBulkAll ds ≤ 1048576)
def OpenSpec.upto (s : _root_.Go.ChangeSpec) : _root_.Go.OpenSpec := { _root_.Go.OpenSpec.ofChange s with cond := some uptoSmall }

/-- 'laws.FnExactMeetingsOf', WHERE WHAT IT READS IS OF BULK AT MOST 1048576: true; the input reads as it did. -/
def fnExactMeetingsOfUptoRow : OpenClaim := { program := "ytdgcdlcfddjmiaa", sum := "fbe09a30599a8b26709e28d0c16f0d1cd26b77bcd45501eb0a63154a7d4f6ffc", func := "loop.example/g01270/laws.FnExactMeetingsOf", spec := "fnExactMeetingsOf", unfollowed := true, recurses := true, apart := false, narrowed := true }
def FnExactMeetingsOfUptoSaid : Prop := fnExactMeetingsOfUptoRow.holds Try.pinned (OpenSpec.upto fnExactMeetingsOfSpec)

/-- 'laws.FnExactMeetingsBy', WHERE WHAT IT READS IS OF BULK AT MOST 1048576: true; the input reads as it did. -/
def fnExactMeetingsByUptoRow : OpenClaim := { program := "ytdgcdlcfddjmiaa", sum := "fbe09a30599a8b26709e28d0c16f0d1cd26b77bcd45501eb0a63154a7d4f6ffc", func := "loop.example/g01270/laws.FnExactMeetingsBy", spec := "fnExactMeetingsBy", unfollowed := true, recurses := true, apart := false, narrowed := true }
def FnExactMeetingsByUptoSaid : Prop := fnExactMeetingsByUptoRow.holds Try.pinned (OpenSpec.upto fnExactMeetingsBySpec)

/-- 'laws.FnExactFirstMeeting', WHERE WHAT IT READS IS OF BULK AT MOST 1048576: true; the input reads as it did. -/
def fnExactFirstMeetingUptoRow : OpenClaim := { program := "ytdgcdlcfddjmiaa", sum := "fbe09a30599a8b26709e28d0c16f0d1cd26b77bcd45501eb0a63154a7d4f6ffc", func := "loop.example/g01270/laws.FnExactFirstMeeting", spec := "fnExactFirstMeeting", unfollowed := true, recurses := true, apart := false, narrowed := true }
def FnExactFirstMeetingUptoSaid : Prop := fnExactFirstMeetingUptoRow.holds Try.pinned (OpenSpec.upto fnExactFirstMeetingSpec)

/-- 'laws.FnExactLastMeeting', WHERE WHAT IT READS IS OF BULK AT MOST 1048576: true; the input reads as it did. -/
def fnExactLastMeetingUptoRow : OpenClaim := { program := "ytdgcdlcfddjmiaa", sum := "fbe09a30599a8b26709e28d0c16f0d1cd26b77bcd45501eb0a63154a7d4f6ffc", func := "loop.example/g01270/laws.FnExactLastMeeting", spec := "fnExactLastMeeting", unfollowed := true, recurses := true, apart := false, narrowed := true }
def FnExactLastMeetingUptoSaid : Prop := fnExactLastMeetingUptoRow.holds Try.pinned (OpenSpec.upto fnExactLastMeetingSpec)

/-- 'laws.FnExactMeetingsOfAnt', WHERE WHAT IT READS IS OF BULK AT MOST 1048576: true; the input reads as it did. -/
def fnExactMeetingsOfAntUptoRow : OpenClaim := { program := "ytdgcdlcfddjmiaa", sum := "fbe09a30599a8b26709e28d0c16f0d1cd26b77bcd45501eb0a63154a7d4f6ffc", func := "loop.example/g01270/laws.FnExactMeetingsOfAnt", spec := "fnExactMeetingsOfAnt", unfollowed := true, recurses := true, apart := false, narrowed := true }
def FnExactMeetingsOfAntUptoSaid : Prop := fnExactMeetingsOfAntUptoRow.holds Try.pinned (OpenSpec.upto fnExactMeetingsOfAntSpec)

/-- 'laws.FnExactCountOfAnts', WHERE WHAT IT READS IS OF BULK AT MOST 1048576: true; the input reads as it did. -/
def fnExactCountOfAntsUptoRow : OpenClaim := { program := "ytdgcdlcfddjmiaa", sum := "fbe09a30599a8b26709e28d0c16f0d1cd26b77bcd45501eb0a63154a7d4f6ffc", func := "loop.example/g01270/laws.FnExactCountOfAnts", spec := "fnExactCountOfAnts", unfollowed := true, recurses := true, apart := false, narrowed := true }
def FnExactCountOfAntsUptoSaid : Prop := fnExactCountOfAntsUptoRow.holds Try.pinned (OpenSpec.upto fnExactCountOfAntsSpec)

/-- 'laws.FnExactCornersOf', WHERE WHAT IT READS IS OF BULK AT MOST 1048576: true; the input reads as it did. -/
def fnExactCornersOfUptoRow : OpenClaim := { program := "ytdgcdlcfddjmiaa", sum := "fbe09a30599a8b26709e28d0c16f0d1cd26b77bcd45501eb0a63154a7d4f6ffc", func := "loop.example/g01270/laws.FnExactCornersOf", spec := "fnExactCornersOf", unfollowed := true, recurses := true, apart := false, narrowed := true }
def FnExactCornersOfUptoSaid : Prop := fnExactCornersOfUptoRow.holds Try.pinned (OpenSpec.upto fnExactCornersOfSpec)

/-- 'laws.FnExactWayWalked', WHERE WHAT IT READS IS OF BULK AT MOST 1048576: true; the input reads as it did. -/
def fnExactWayWalkedUptoRow : OpenClaim := { program := "ytdgcdlcfddjmiaa", sum := "fbe09a30599a8b26709e28d0c16f0d1cd26b77bcd45501eb0a63154a7d4f6ffc", func := "loop.example/g01270/laws.FnExactWayWalked", spec := "fnExactWayWalked", unfollowed := true, recurses := true, apart := false, narrowed := true }
def FnExactWayWalkedUptoSaid : Prop := fnExactWayWalkedUptoRow.holds Try.pinned (OpenSpec.upto fnExactWayWalkedSpec)

/-- 'laws.FnExactNeverMeet', WHERE WHAT IT READS IS OF BULK AT MOST 1048576: true; the input reads as it did. -/
def fnExactNeverMeetUptoRow : OpenClaim := { program := "ytdgcdlcfddjmiaa", sum := "fbe09a30599a8b26709e28d0c16f0d1cd26b77bcd45501eb0a63154a7d4f6ffc", func := "loop.example/g01270/laws.FnExactNeverMeet", spec := "fnExactNeverMeet", unfollowed := true, recurses := true, apart := false, narrowed := true }
def FnExactNeverMeetUptoSaid : Prop := fnExactNeverMeetUptoRow.holds Try.pinned (OpenSpec.upto fnExactNeverMeetSpec)

/-- 'laws.FnExactMeetAtOnce', WHERE WHAT IT READS IS OF BULK AT MOST 1048576: true; the input reads as it did. -/
def fnExactMeetAtOnceUptoRow : OpenClaim := { program := "ytdgcdlcfddjmiaa", sum := "fbe09a30599a8b26709e28d0c16f0d1cd26b77bcd45501eb0a63154a7d4f6ffc", func := "loop.example/g01270/laws.FnExactMeetAtOnce", spec := "fnExactMeetAtOnce", unfollowed := true, recurses := true, apart := false, narrowed := true }
def FnExactMeetAtOnceUptoSaid : Prop := fnExactMeetAtOnceUptoRow.holds Try.pinned (OpenSpec.upto fnExactMeetAtOnceSpec)

/-- 'laws.FnExactPlacesOfMeetings', WHERE WHAT IT READS IS OF BULK AT MOST 1048576: true; the input reads as it did. -/
def fnExactPlacesOfMeetingsUptoRow : OpenClaim := { program := "ytdgcdlcfddjmiaa", sum := "fbe09a30599a8b26709e28d0c16f0d1cd26b77bcd45501eb0a63154a7d4f6ffc", func := "loop.example/g01270/laws.FnExactPlacesOfMeetings", spec := "fnExactPlacesOfMeetings", unfollowed := true, recurses := true, apart := false, narrowed := true }
def FnExactPlacesOfMeetingsUptoSaid : Prop := fnExactPlacesOfMeetingsUptoRow.holds Try.pinned (OpenSpec.upto fnExactPlacesOfMeetingsSpec)

end Rows
end Go.Proofs.Ytdgcdlcfddjmiaa
