/-
  No cell of these rows narrows 'for every input' (looked for: loops, veiled, ifaces, maps, wideKeys, modest, calm, conditions, laid).
  DERIVED. THE GIVEN ROWS OF THIS SEAT. 9 by the template 'for every input the law returns true; each argument reads behind the call as it read before'; 0 by the template 'total and deterministic' (their statements: YthokkdipbckolaaTotals.lean).
  GIVEN WITH THE SEED: the statements are not yours to turn. If you find one false, say at which input.
  Laid BY PROGRAM, IN A SANDBOX (cutbox-rows.mjs): the forced cells as the released guide's own fill.sh prints them over the translation 95e185c29f2634e4… (all of the seat's roots in one cut). By AI agents, Wed Nov 11 2026. No macro, syntax, notation, axiom, sorry.
-/
import Derived.Test.YthokkdipbckolaaChecked
import GoSem.Claim
import GoSem.ClaimJoined
import GoSem.ClaimMapViews
import Derived.JoinedTies
import Derived.KernelRfl
namespace Go.Proofs.Ythokkdipbckolaa
/- THE CELL 'sum', in the pinned program and in every row, IS THE sha256 OF THE DUMP (.gsa) THAT YthokkdipbckolaaProg.lean LOADS. Nothing in Lean hashes anything: it is a label: what it is worth is what the hold of that sum in a sandbox is worth. -/
noncomputable def Try.pinned : Pinned := { name := "ythokkdipbckolaa", sum := "95e185c29f2634e4e1bcbde5e67285877098d56b4c04bf07bf9cb36e7179a8ea", checked := Try.checked }
namespace Rows
def none {H : Type} : Left H := { results := [], args := [] }

/-- 'laws.FnExactIsBox': WHATEVER THE INPUT: true; the input reads as it did. -/
def fnExactIsBoxSpec : ChangeSpec := { name := "fnExactIsBox", fn := fun _ => fun
  | [d] => { results := [.lit (.bool true)], args := [d] }
  | _ => none }
def fnExactIsBoxRow : OpenClaim := { program := "ythokkdipbckolaa", sum := "95e185c29f2634e4e1bcbde5e67285877098d56b4c04bf07bf9cb36e7179a8ea", func := "loop.example/g01270/laws.FnExactIsBox", spec := "fnExactIsBox", apart := false }
def FnExactIsBoxSaid : Prop := fnExactIsBoxRow.holds Try.pinned (OpenSpec.ofChange fnExactIsBoxSpec)

/-- ITS FALSE NEIGHBOUR: 'it returns false'. Refute it at one input. -/
def fnExactIsBoxWrong : ChangeSpec := { name := "fnExactIsBox", fn := fun _ => fun
  | [d] => { results := [.lit (.bool false)], args := [d] }
  | _ => none }
def FnExactIsBoxWrongFalsely : Prop := fnExactIsBoxRow.holds Try.pinned (OpenSpec.ofChange fnExactIsBoxWrong)

/-- 'laws.FnExactBoxAfter': WHATEVER THE INPUT: true; the input reads as it did. -/
def fnExactBoxAfterSpec : ChangeSpec := { name := "fnExactBoxAfter", fn := fun _ => fun
  | [d1, d2] => { results := [.lit (.bool true)], args := [d1, d2] }
  | _ => none }
def fnExactBoxAfterRow : OpenClaim := { program := "ythokkdipbckolaa", sum := "95e185c29f2634e4e1bcbde5e67285877098d56b4c04bf07bf9cb36e7179a8ea", func := "loop.example/g01270/laws.FnExactBoxAfter", spec := "fnExactBoxAfter", unfollowed := true, recurses := true, apart := false }
def FnExactBoxAfterSaid : Prop := fnExactBoxAfterRow.holds Try.pinned (OpenSpec.ofChange fnExactBoxAfterSpec)

/-- ITS FALSE NEIGHBOUR: 'it returns false'. Refute it at one input. -/
def fnExactBoxAfterWrong : ChangeSpec := { name := "fnExactBoxAfter", fn := fun _ => fun
  | [d1, d2] => { results := [.lit (.bool false)], args := [d1, d2] }
  | _ => none }
def FnExactBoxAfterWrongFalsely : Prop := fnExactBoxAfterRow.holds Try.pinned (OpenSpec.ofChange fnExactBoxAfterWrong)

/-- 'laws.FnExactBoxPlace': WHATEVER THE INPUT: true; the input reads as it did. -/
def fnExactBoxPlaceSpec : ChangeSpec := { name := "fnExactBoxPlace", fn := fun _ => fun
  | [d1, d2, d3] => { results := [.lit (.bool true)], args := [d1, d2, d3] }
  | _ => none }
def fnExactBoxPlaceRow : OpenClaim := { program := "ythokkdipbckolaa", sum := "95e185c29f2634e4e1bcbde5e67285877098d56b4c04bf07bf9cb36e7179a8ea", func := "loop.example/g01270/laws.FnExactBoxPlace", spec := "fnExactBoxPlace", unfollowed := true, recurses := true, apart := false }
def FnExactBoxPlaceSaid : Prop := fnExactBoxPlaceRow.holds Try.pinned (OpenSpec.ofChange fnExactBoxPlaceSpec)

/-- ITS FALSE NEIGHBOUR: 'it returns false'. Refute it at one input. -/
def fnExactBoxPlaceWrong : ChangeSpec := { name := "fnExactBoxPlace", fn := fun _ => fun
  | [d1, d2, d3] => { results := [.lit (.bool false)], args := [d1, d2, d3] }
  | _ => none }
def FnExactBoxPlaceWrongFalsely : Prop := fnExactBoxPlaceRow.holds Try.pinned (OpenSpec.ofChange fnExactBoxPlaceWrong)

/-- 'laws.FnExactBoxWay': WHATEVER THE INPUT: true; the input reads as it did. -/
def fnExactBoxWaySpec : ChangeSpec := { name := "fnExactBoxWay", fn := fun _ => fun
  | [d1, d2, d3] => { results := [.lit (.bool true)], args := [d1, d2, d3] }
  | _ => none }
def fnExactBoxWayRow : OpenClaim := { program := "ythokkdipbckolaa", sum := "95e185c29f2634e4e1bcbde5e67285877098d56b4c04bf07bf9cb36e7179a8ea", func := "loop.example/g01270/laws.FnExactBoxWay", spec := "fnExactBoxWay", unfollowed := true, recurses := true, apart := false }
def FnExactBoxWaySaid : Prop := fnExactBoxWayRow.holds Try.pinned (OpenSpec.ofChange fnExactBoxWaySpec)

/-- ITS FALSE NEIGHBOUR: 'it returns false'. Refute it at one input. -/
def fnExactBoxWayWrong : ChangeSpec := { name := "fnExactBoxWay", fn := fun _ => fun
  | [d1, d2, d3] => { results := [.lit (.bool false)], args := [d1, d2, d3] }
  | _ => none }
def FnExactBoxWayWrongFalsely : Prop := fnExactBoxWayRow.holds Try.pinned (OpenSpec.ofChange fnExactBoxWayWrong)

/-- 'laws.FnExactBoxMeetings': WHATEVER THE INPUT: true; the input reads as it did. -/
def fnExactBoxMeetingsSpec : ChangeSpec := { name := "fnExactBoxMeetings", fn := fun _ => fun
  | [d1, d2] => { results := [.lit (.bool true)], args := [d1, d2] }
  | _ => none }
def fnExactBoxMeetingsRow : OpenClaim := { program := "ythokkdipbckolaa", sum := "95e185c29f2634e4e1bcbde5e67285877098d56b4c04bf07bf9cb36e7179a8ea", func := "loop.example/g01270/laws.FnExactBoxMeetings", spec := "fnExactBoxMeetings", apart := false }
def FnExactBoxMeetingsSaid : Prop := fnExactBoxMeetingsRow.holds Try.pinned (OpenSpec.ofChange fnExactBoxMeetingsSpec)

/-- ITS FALSE NEIGHBOUR: 'it returns false'. Refute it at one input. -/
def fnExactBoxMeetingsWrong : ChangeSpec := { name := "fnExactBoxMeetings", fn := fun _ => fun
  | [d1, d2] => { results := [.lit (.bool false)], args := [d1, d2] }
  | _ => none }
def FnExactBoxMeetingsWrongFalsely : Prop := fnExactBoxMeetingsRow.holds Try.pinned (OpenSpec.ofChange fnExactBoxMeetingsWrong)

/-- 'laws.FnExactBoxPeriod': WHATEVER THE INPUT: true; the input reads as it did. -/
def fnExactBoxPeriodSpec : ChangeSpec := { name := "fnExactBoxPeriod", fn := fun _ => fun
  | [d] => { results := [.lit (.bool true)], args := [d] }
  | _ => none }
def fnExactBoxPeriodRow : OpenClaim := { program := "ythokkdipbckolaa", sum := "95e185c29f2634e4e1bcbde5e67285877098d56b4c04bf07bf9cb36e7179a8ea", func := "loop.example/g01270/laws.FnExactBoxPeriod", spec := "fnExactBoxPeriod", unfollowed := true, recurses := true, apart := false }
def FnExactBoxPeriodSaid : Prop := fnExactBoxPeriodRow.holds Try.pinned (OpenSpec.ofChange fnExactBoxPeriodSpec)

/-- ITS FALSE NEIGHBOUR: 'it returns false'. Refute it at one input. -/
def fnExactBoxPeriodWrong : ChangeSpec := { name := "fnExactBoxPeriod", fn := fun _ => fun
  | [d] => { results := [.lit (.bool false)], args := [d] }
  | _ => none }
def FnExactBoxPeriodWrongFalsely : Prop := fnExactBoxPeriodRow.holds Try.pinned (OpenSpec.ofChange fnExactBoxPeriodWrong)

/-- 'laws.FnExactHalfwayBox': WHATEVER THE INPUT: true; the input reads as it did. -/
def fnExactHalfwayBoxSpec : ChangeSpec := { name := "fnExactHalfwayBox", fn := fun _ => fun
  | [d] => { results := [.lit (.bool true)], args := [d] }
  | _ => none }
def fnExactHalfwayBoxRow : OpenClaim := { program := "ythokkdipbckolaa", sum := "95e185c29f2634e4e1bcbde5e67285877098d56b4c04bf07bf9cb36e7179a8ea", func := "loop.example/g01270/laws.FnExactHalfwayBox", spec := "fnExactHalfwayBox", unfollowed := true, recurses := true, apart := false }
def FnExactHalfwayBoxSaid : Prop := fnExactHalfwayBoxRow.holds Try.pinned (OpenSpec.ofChange fnExactHalfwayBoxSpec)

/-- ITS FALSE NEIGHBOUR: 'it returns false'. Refute it at one input. -/
def fnExactHalfwayBoxWrong : ChangeSpec := { name := "fnExactHalfwayBox", fn := fun _ => fun
  | [d] => { results := [.lit (.bool false)], args := [d] }
  | _ => none }
def FnExactHalfwayBoxWrongFalsely : Prop := fnExactHalfwayBoxRow.holds Try.pinned (OpenSpec.ofChange fnExactHalfwayBoxWrong)

/-- 'laws.FnExactVisitsOf': WHATEVER THE INPUT: true; the input reads as it did. -/
def fnExactVisitsOfSpec : ChangeSpec := { name := "fnExactVisitsOf", fn := fun _ => fun
  | [d1, d2] => { results := [.lit (.bool true)], args := [d1, d2] }
  | _ => none }
def fnExactVisitsOfRow : OpenClaim := { program := "ythokkdipbckolaa", sum := "95e185c29f2634e4e1bcbde5e67285877098d56b4c04bf07bf9cb36e7179a8ea", func := "loop.example/g01270/laws.FnExactVisitsOf", spec := "fnExactVisitsOf", apart := false }
def FnExactVisitsOfSaid : Prop := fnExactVisitsOfRow.holds Try.pinned (OpenSpec.ofChange fnExactVisitsOfSpec)

/-- ITS FALSE NEIGHBOUR: 'it returns false'. Refute it at one input. -/
def fnExactVisitsOfWrong : ChangeSpec := { name := "fnExactVisitsOf", fn := fun _ => fun
  | [d1, d2] => { results := [.lit (.bool false)], args := [d1, d2] }
  | _ => none }
def FnExactVisitsOfWrongFalsely : Prop := fnExactVisitsOfRow.holds Try.pinned (OpenSpec.ofChange fnExactVisitsOfWrong)

/-- 'laws.FnExactRoundOfBox': WHATEVER THE INPUT: true; the input reads as it did. -/
def fnExactRoundOfBoxSpec : ChangeSpec := { name := "fnExactRoundOfBox", fn := fun _ => fun
  | [d] => { results := [.lit (.bool true)], args := [d] }
  | _ => none }
def fnExactRoundOfBoxRow : OpenClaim := { program := "ythokkdipbckolaa", sum := "95e185c29f2634e4e1bcbde5e67285877098d56b4c04bf07bf9cb36e7179a8ea", func := "loop.example/g01270/laws.FnExactRoundOfBox", spec := "fnExactRoundOfBox", unfollowed := true, recurses := true, apart := false }
def FnExactRoundOfBoxSaid : Prop := fnExactRoundOfBoxRow.holds Try.pinned (OpenSpec.ofChange fnExactRoundOfBoxSpec)

/-- ITS FALSE NEIGHBOUR: 'it returns false'. Refute it at one input. -/
def fnExactRoundOfBoxWrong : ChangeSpec := { name := "fnExactRoundOfBox", fn := fun _ => fun
  | [d] => { results := [.lit (.bool false)], args := [d] }
  | _ => none }
def FnExactRoundOfBoxWrongFalsely : Prop := fnExactRoundOfBoxRow.holds Try.pinned (OpenSpec.ofChange fnExactRoundOfBoxWrong)

/- THE SECOND FORM. 'bulk': how many values and letters a reading holds, each counted each time it is reached (what is shared counts as often as it is met; a slice's spare places count too). A statement '..UptoSaid' is the law's where the arguments, and the package variables that the reading takes, are together of bulk at most 1048576: NARROWER than '..Said'. Prove '..Said' where nothing that the law and all that it calls make is longer than what came in: it says more and counts as full. Else prove '..UptoSaid'. A law counts once. -/
mutual
def uptoBulk {H : Type} : DataW H → Nat
  | .lit (.string bytes) => bytes.length + 1
  | .lit _ => 1
  | .nil => 1
  | .ptr d => uptoBulk d + 1
  | .slice elems spare => uptoBulkAll elems + uptoBulkAll spare + 1
  | .agg parts => uptoBulkAll parts + 1
  | .iface _ d => uptoBulk d + 1
  | .map entries => uptoBulkEntries entries + 1
  | .held _ => 1
def uptoBulkAll {H : Type} : List (DataW H) → Nat
  | [] => 0
  | d :: r => uptoBulk d + uptoBulkAll r
def uptoBulkEntries {H : Type} : List (Lit × DataW H) → Nat
  | [] => 0
  | x :: r => uptoBulkEntry x + uptoBulkEntries r
def uptoBulkEntry {H : Type} : Lit × DataW H → Nat
  | (.string bytes, d) => bytes.length + uptoBulk d + 1
  | (_, d) => uptoBulk d + 1
 end
def uptoSmall : (H : Type) → List (DataW H) → Bool := fun _ ds => decide (uptoBulkAll ds ≤ 1048576)
def OpenSpec.upto (s : _root_.Go.ChangeSpec) : _root_.Go.OpenSpec := { _root_.Go.OpenSpec.ofChange s with cond := some uptoSmall }

/-- 'laws.FnExactIsBox', WHERE WHAT IT READS IS OF BULK AT MOST 1048576: true; the input reads as it did. -/
def fnExactIsBoxUptoRow : OpenClaim := { program := "ythokkdipbckolaa", sum := "95e185c29f2634e4e1bcbde5e67285877098d56b4c04bf07bf9cb36e7179a8ea", func := "loop.example/g01270/laws.FnExactIsBox", spec := "fnExactIsBox", apart := false, narrowed := true }
def FnExactIsBoxUptoSaid : Prop := fnExactIsBoxUptoRow.holds Try.pinned (OpenSpec.upto fnExactIsBoxSpec)

/-- 'laws.FnExactBoxAfter', WHERE WHAT IT READS IS OF BULK AT MOST 1048576: true; the input reads as it did. -/
def fnExactBoxAfterUptoRow : OpenClaim := { program := "ythokkdipbckolaa", sum := "95e185c29f2634e4e1bcbde5e67285877098d56b4c04bf07bf9cb36e7179a8ea", func := "loop.example/g01270/laws.FnExactBoxAfter", spec := "fnExactBoxAfter", unfollowed := true, recurses := true, apart := false, narrowed := true }
def FnExactBoxAfterUptoSaid : Prop := fnExactBoxAfterUptoRow.holds Try.pinned (OpenSpec.upto fnExactBoxAfterSpec)

/-- 'laws.FnExactBoxPlace', WHERE WHAT IT READS IS OF BULK AT MOST 1048576: true; the input reads as it did. -/
def fnExactBoxPlaceUptoRow : OpenClaim := { program := "ythokkdipbckolaa", sum := "95e185c29f2634e4e1bcbde5e67285877098d56b4c04bf07bf9cb36e7179a8ea", func := "loop.example/g01270/laws.FnExactBoxPlace", spec := "fnExactBoxPlace", unfollowed := true, recurses := true, apart := false, narrowed := true }
def FnExactBoxPlaceUptoSaid : Prop := fnExactBoxPlaceUptoRow.holds Try.pinned (OpenSpec.upto fnExactBoxPlaceSpec)

/-- 'laws.FnExactBoxWay', WHERE WHAT IT READS IS OF BULK AT MOST 1048576: true; the input reads as it did. -/
def fnExactBoxWayUptoRow : OpenClaim := { program := "ythokkdipbckolaa", sum := "95e185c29f2634e4e1bcbde5e67285877098d56b4c04bf07bf9cb36e7179a8ea", func := "loop.example/g01270/laws.FnExactBoxWay", spec := "fnExactBoxWay", unfollowed := true, recurses := true, apart := false, narrowed := true }
def FnExactBoxWayUptoSaid : Prop := fnExactBoxWayUptoRow.holds Try.pinned (OpenSpec.upto fnExactBoxWaySpec)

/-- 'laws.FnExactBoxMeetings', WHERE WHAT IT READS IS OF BULK AT MOST 1048576: true; the input reads as it did. -/
def fnExactBoxMeetingsUptoRow : OpenClaim := { program := "ythokkdipbckolaa", sum := "95e185c29f2634e4e1bcbde5e67285877098d56b4c04bf07bf9cb36e7179a8ea", func := "loop.example/g01270/laws.FnExactBoxMeetings", spec := "fnExactBoxMeetings", apart := false, narrowed := true }
def FnExactBoxMeetingsUptoSaid : Prop := fnExactBoxMeetingsUptoRow.holds Try.pinned (OpenSpec.upto fnExactBoxMeetingsSpec)

/-- 'laws.FnExactBoxPeriod', WHERE WHAT IT READS IS OF BULK AT MOST 1048576: true; the input reads as it did. -/
def fnExactBoxPeriodUptoRow : OpenClaim := { program := "ythokkdipbckolaa", sum := "95e185c29f2634e4e1bcbde5e67285877098d56b4c04bf07bf9cb36e7179a8ea", func := "loop.example/g01270/laws.FnExactBoxPeriod", spec := "fnExactBoxPeriod", unfollowed := true, recurses := true, apart := false, narrowed := true }
def FnExactBoxPeriodUptoSaid : Prop := fnExactBoxPeriodUptoRow.holds Try.pinned (OpenSpec.upto fnExactBoxPeriodSpec)

/-- 'laws.FnExactHalfwayBox', WHERE WHAT IT READS IS OF BULK AT MOST 1048576: true; the input reads as it did. -/
def fnExactHalfwayBoxUptoRow : OpenClaim := { program := "ythokkdipbckolaa", sum := "95e185c29f2634e4e1bcbde5e67285877098d56b4c04bf07bf9cb36e7179a8ea", func := "loop.example/g01270/laws.FnExactHalfwayBox", spec := "fnExactHalfwayBox", unfollowed := true, recurses := true, apart := false, narrowed := true }
def FnExactHalfwayBoxUptoSaid : Prop := fnExactHalfwayBoxUptoRow.holds Try.pinned (OpenSpec.upto fnExactHalfwayBoxSpec)

/-- 'laws.FnExactVisitsOf', WHERE WHAT IT READS IS OF BULK AT MOST 1048576: true; the input reads as it did. -/
def fnExactVisitsOfUptoRow : OpenClaim := { program := "ythokkdipbckolaa", sum := "95e185c29f2634e4e1bcbde5e67285877098d56b4c04bf07bf9cb36e7179a8ea", func := "loop.example/g01270/laws.FnExactVisitsOf", spec := "fnExactVisitsOf", apart := false, narrowed := true }
def FnExactVisitsOfUptoSaid : Prop := fnExactVisitsOfUptoRow.holds Try.pinned (OpenSpec.upto fnExactVisitsOfSpec)

/-- 'laws.FnExactRoundOfBox', WHERE WHAT IT READS IS OF BULK AT MOST 1048576: true; the input reads as it did. -/
def fnExactRoundOfBoxUptoRow : OpenClaim := { program := "ythokkdipbckolaa", sum := "95e185c29f2634e4e1bcbde5e67285877098d56b4c04bf07bf9cb36e7179a8ea", func := "loop.example/g01270/laws.FnExactRoundOfBox", spec := "fnExactRoundOfBox", unfollowed := true, recurses := true, apart := false, narrowed := true }
def FnExactRoundOfBoxUptoSaid : Prop := fnExactRoundOfBoxUptoRow.holds Try.pinned (OpenSpec.upto fnExactRoundOfBoxSpec)

end Rows
end Go.Proofs.Ythokkdipbckolaa
