/-
  NARROWER THAN 'FOR EVERY INPUT', by the rows' own cells (each row's printed sentence says how): FnExactIsWord: laid · FnExactStepWord: laid · FnExactWordAfter: laid · FnExactStepsToRest: laid · FnExactRestOf: laid · FnExactFacingPlaces: laid · FnExactMeetingsOfWord: laid · FnExactMeetingsBySteps: laid · FnExactNumbersOfWord: laid · FnExactOtherSide: laid · FnExactCountWords: laid · FnExactWordsBefore: laid.
  DERIVED. THE GIVEN ROWS OF THIS SEAT. 12 by the template 'for every input the law returns true; each argument reads behind the call as it read before'; 0 by the template 'total and deterministic' (their statements: YtohfkikdcoefcaaDoorTotals.lean).
  GIVEN WITH THE SEED: the statements are not yours to turn. If you find one false, say at which input.
  Laid BY PROGRAM, IN A SANDBOX (cutbox-rows.mjs): the forced cells as the released guide's own fill.sh prints them over the translation 002fd31ab8f59b82… (all of the seat's roots in one cut). By AI agents, Wed Nov 11 2026. No macro, syntax, notation, axiom, sorry.
-/
import Derived.Test.YtohfkikdcoefcaaDoorChecked
import GoSem.PinnedTables
import GoSem.Claim
import GoSem.ClaimJoined
import GoSem.ClaimMapViews
import Derived.JoinedTies
import Derived.KernelRfl
namespace Go.Proofs.YtohfkikdcoefcaaDoor
/- THE CELL 'sum', in the pinned program and in every row, IS THE sha256 OF THE DUMP (.gsa) THAT YtohfkikdcoefcaaDoorProg.lean LOADS. Nothing in Lean hashes anything: it is a label: what it is worth is what the hold of that sum in a sandbox is worth. -/
noncomputable def Tryd.pinned : Pinned := { name := "ytohfkikdcoefcaadoor", sum := "002fd31ab8f59b826c0c0f2c2ad24ba0d4719d65e9c9f2c05b92535c76d39a11", checked := Tryd.checked }
namespace Rows
def none {H : Type} : Left H := { results := [], args := [] }

/- WHAT THE LISTED PACKAGE-LEVEL VARIABLES READ AS WHEN THE CALL BEGINS. Each datum BY PROGRAM (the guide's laid-datum.mjs) off the statement by which the dump's own 'gosem.cut.vars' lays the variable. In a bare row this is a premise. The card (YtohfkikdcoefcaaDoorCards.lean) ties it to the program's text. -/
def laid_unicode_utf8_acceptRanges {H : Type} : DataW H := .agg [.agg [.lit (.int .u8 128), .lit (.int .u8 191)], .agg [.lit (.int .u8 160), .lit (.int .u8 191)], .agg [.lit (.int .u8 128), .lit (.int .u8 159)], .agg [.lit (.int .u8 144), .lit (.int .u8 191)], .agg [.lit (.int .u8 128), .lit (.int .u8 143)], .agg [.lit (.int .u8 0), .lit (.int .u8 0)], .agg [.lit (.int .u8 0), .lit (.int .u8 0)], .agg [.lit (.int .u8 0), .lit (.int .u8 0)], .agg [.lit (.int .u8 0), .lit (.int .u8 0)], .agg [.lit (.int .u8 0), .lit (.int .u8 0)], .agg [.lit (.int .u8 0), .lit (.int .u8 0)], .agg [.lit (.int .u8 0), .lit (.int .u8 0)], .agg [.lit (.int .u8 0), .lit (.int .u8 0)], .agg [.lit (.int .u8 0), .lit (.int .u8 0)], .agg [.lit (.int .u8 0), .lit (.int .u8 0)], .agg [.lit (.int .u8 0), .lit (.int .u8 0)]]
/-- One of Go's own tables, pinned by name: the form's constant. -/
def laid_unicode_utf8_first : DataW Unit := Go.Pinned.utf8First

/-- 'laws.FnExactIsWord': WHATEVER THE INPUT: true; the input reads as it did. -/
def fnExactIsWordSpec : ChangeSpec := { name := "fnExactIsWord", fn := fun _ => fun
  | [d] => { results := [.lit (.bool true)], args := [d] }
  | _ => none }
def fnExactIsWordRow : OpenClaim := { program := "ytohfkikdcoefcaadoor", sum := "002fd31ab8f59b826c0c0f2c2ad24ba0d4719d65e9c9f2c05b92535c76d39a11", func := "loop.example/g01270/laws.FnExactIsWord", spec := "fnExactIsWord", inPlace := ["internal/bytealg.IndexByteString", "internal/bytealg.IndexString"], named := ["unicode/utf8.first", "unicode/utf8.acceptRanges", "internal/bytealg.MaxLen"], apart := false, laid := [("unicode/utf8.acceptRanges", laid_unicode_utf8_acceptRanges), ("unicode/utf8.first", laid_unicode_utf8_first)] }
def FnExactIsWordSaid : Prop := fnExactIsWordRow.holds Tryd.pinned (OpenSpec.ofChange fnExactIsWordSpec)

/-- ITS FALSE NEIGHBOUR: 'it returns false'. Refute it at one input. -/
def fnExactIsWordWrong : ChangeSpec := { name := "fnExactIsWord", fn := fun _ => fun
  | [d] => { results := [.lit (.bool false)], args := [d] }
  | _ => none }
def FnExactIsWordWrongFalsely : Prop := fnExactIsWordRow.holds Tryd.pinned (OpenSpec.ofChange fnExactIsWordWrong)

/-- 'laws.FnExactStepWord': WHATEVER THE INPUT: true; the input reads as it did. -/
def fnExactStepWordSpec : ChangeSpec := { name := "fnExactStepWord", fn := fun _ => fun
  | [d] => { results := [.lit (.bool true)], args := [d] }
  | _ => none }
def fnExactStepWordRow : OpenClaim := { program := "ytohfkikdcoefcaadoor", sum := "002fd31ab8f59b826c0c0f2c2ad24ba0d4719d65e9c9f2c05b92535c76d39a11", func := "loop.example/g01270/laws.FnExactStepWord", spec := "fnExactStepWord", inPlace := ["internal/bytealg.IndexByteString", "internal/bytealg.IndexString", "internal/bytealg.CountString", "internal/abi.NoEscape", "internal/bytealg.MakeNoZero"], named := ["unicode/utf8.first", "unicode/utf8.acceptRanges", "internal/bytealg.MaxLen"], apart := false, laid := [("unicode/utf8.acceptRanges", laid_unicode_utf8_acceptRanges), ("unicode/utf8.first", laid_unicode_utf8_first)] }
def FnExactStepWordSaid : Prop := fnExactStepWordRow.holds Tryd.pinned (OpenSpec.ofChange fnExactStepWordSpec)

/-- ITS FALSE NEIGHBOUR: 'it returns false'. Refute it at one input. -/
def fnExactStepWordWrong : ChangeSpec := { name := "fnExactStepWord", fn := fun _ => fun
  | [d] => { results := [.lit (.bool false)], args := [d] }
  | _ => none }
def FnExactStepWordWrongFalsely : Prop := fnExactStepWordRow.holds Tryd.pinned (OpenSpec.ofChange fnExactStepWordWrong)

/-- 'laws.FnExactWordAfter': WHATEVER THE INPUT: true; the input reads as it did. -/
def fnExactWordAfterSpec : ChangeSpec := { name := "fnExactWordAfter", fn := fun _ => fun
  | [d1, d2] => { results := [.lit (.bool true)], args := [d1, d2] }
  | _ => none }
def fnExactWordAfterRow : OpenClaim := { program := "ytohfkikdcoefcaadoor", sum := "002fd31ab8f59b826c0c0f2c2ad24ba0d4719d65e9c9f2c05b92535c76d39a11", func := "loop.example/g01270/laws.FnExactWordAfter", spec := "fnExactWordAfter", inPlace := ["internal/bytealg.IndexByteString", "internal/bytealg.IndexString", "internal/bytealg.CountString", "internal/abi.NoEscape", "internal/bytealg.MakeNoZero"], named := ["unicode/utf8.first", "unicode/utf8.acceptRanges", "internal/bytealg.MaxLen"], apart := false, laid := [("unicode/utf8.acceptRanges", laid_unicode_utf8_acceptRanges), ("unicode/utf8.first", laid_unicode_utf8_first)] }
def FnExactWordAfterSaid : Prop := fnExactWordAfterRow.holds Tryd.pinned (OpenSpec.ofChange fnExactWordAfterSpec)

/-- ITS FALSE NEIGHBOUR: 'it returns false'. Refute it at one input. -/
def fnExactWordAfterWrong : ChangeSpec := { name := "fnExactWordAfter", fn := fun _ => fun
  | [d1, d2] => { results := [.lit (.bool false)], args := [d1, d2] }
  | _ => none }
def FnExactWordAfterWrongFalsely : Prop := fnExactWordAfterRow.holds Tryd.pinned (OpenSpec.ofChange fnExactWordAfterWrong)

/-- 'laws.FnExactStepsToRest': WHATEVER THE INPUT: true; the input reads as it did. -/
def fnExactStepsToRestSpec : ChangeSpec := { name := "fnExactStepsToRest", fn := fun _ => fun
  | [d] => { results := [.lit (.bool true)], args := [d] }
  | _ => none }
def fnExactStepsToRestRow : OpenClaim := { program := "ytohfkikdcoefcaadoor", sum := "002fd31ab8f59b826c0c0f2c2ad24ba0d4719d65e9c9f2c05b92535c76d39a11", func := "loop.example/g01270/laws.FnExactStepsToRest", spec := "fnExactStepsToRest", inPlace := ["internal/bytealg.IndexByteString", "internal/bytealg.IndexString", "internal/bytealg.CountString", "internal/abi.NoEscape", "internal/bytealg.MakeNoZero"], named := ["unicode/utf8.first", "unicode/utf8.acceptRanges", "internal/bytealg.MaxLen"], apart := false, laid := [("unicode/utf8.acceptRanges", laid_unicode_utf8_acceptRanges), ("unicode/utf8.first", laid_unicode_utf8_first)] }
def FnExactStepsToRestSaid : Prop := fnExactStepsToRestRow.holds Tryd.pinned (OpenSpec.ofChange fnExactStepsToRestSpec)

/-- ITS FALSE NEIGHBOUR: 'it returns false'. Refute it at one input. -/
def fnExactStepsToRestWrong : ChangeSpec := { name := "fnExactStepsToRest", fn := fun _ => fun
  | [d] => { results := [.lit (.bool false)], args := [d] }
  | _ => none }
def FnExactStepsToRestWrongFalsely : Prop := fnExactStepsToRestRow.holds Tryd.pinned (OpenSpec.ofChange fnExactStepsToRestWrong)

/-- 'laws.FnExactRestOf': WHATEVER THE INPUT: true; the input reads as it did. -/
def fnExactRestOfSpec : ChangeSpec := { name := "fnExactRestOf", fn := fun _ => fun
  | [d] => { results := [.lit (.bool true)], args := [d] }
  | _ => none }
def fnExactRestOfRow : OpenClaim := { program := "ytohfkikdcoefcaadoor", sum := "002fd31ab8f59b826c0c0f2c2ad24ba0d4719d65e9c9f2c05b92535c76d39a11", func := "loop.example/g01270/laws.FnExactRestOf", spec := "fnExactRestOf", inPlace := ["internal/bytealg.IndexByteString", "internal/bytealg.IndexString", "internal/bytealg.CountString", "internal/abi.NoEscape", "internal/bytealg.MakeNoZero"], named := ["unicode/utf8.first", "unicode/utf8.acceptRanges", "internal/bytealg.MaxLen"], apart := false, laid := [("unicode/utf8.acceptRanges", laid_unicode_utf8_acceptRanges), ("unicode/utf8.first", laid_unicode_utf8_first)] }
def FnExactRestOfSaid : Prop := fnExactRestOfRow.holds Tryd.pinned (OpenSpec.ofChange fnExactRestOfSpec)

/-- ITS FALSE NEIGHBOUR: 'it returns false'. Refute it at one input. -/
def fnExactRestOfWrong : ChangeSpec := { name := "fnExactRestOf", fn := fun _ => fun
  | [d] => { results := [.lit (.bool false)], args := [d] }
  | _ => none }
def FnExactRestOfWrongFalsely : Prop := fnExactRestOfRow.holds Tryd.pinned (OpenSpec.ofChange fnExactRestOfWrong)

/-- 'laws.FnExactFacingPlaces': WHATEVER THE INPUT: true; the input reads as it did. -/
def fnExactFacingPlacesSpec : ChangeSpec := { name := "fnExactFacingPlaces", fn := fun _ => fun
  | [d] => { results := [.lit (.bool true)], args := [d] }
  | _ => none }
def fnExactFacingPlacesRow : OpenClaim := { program := "ytohfkikdcoefcaadoor", sum := "002fd31ab8f59b826c0c0f2c2ad24ba0d4719d65e9c9f2c05b92535c76d39a11", func := "loop.example/g01270/laws.FnExactFacingPlaces", spec := "fnExactFacingPlaces", inPlace := ["internal/bytealg.IndexByteString", "internal/bytealg.IndexString"], named := ["unicode/utf8.first", "unicode/utf8.acceptRanges", "internal/bytealg.MaxLen"], apart := false, laid := [("unicode/utf8.acceptRanges", laid_unicode_utf8_acceptRanges), ("unicode/utf8.first", laid_unicode_utf8_first)] }
def FnExactFacingPlacesSaid : Prop := fnExactFacingPlacesRow.holds Tryd.pinned (OpenSpec.ofChange fnExactFacingPlacesSpec)

/-- ITS FALSE NEIGHBOUR: 'it returns false'. Refute it at one input. -/
def fnExactFacingPlacesWrong : ChangeSpec := { name := "fnExactFacingPlaces", fn := fun _ => fun
  | [d] => { results := [.lit (.bool false)], args := [d] }
  | _ => none }
def FnExactFacingPlacesWrongFalsely : Prop := fnExactFacingPlacesRow.holds Tryd.pinned (OpenSpec.ofChange fnExactFacingPlacesWrong)

/-- 'laws.FnExactMeetingsOfWord': WHATEVER THE INPUT: true; the input reads as it did. -/
def fnExactMeetingsOfWordSpec : ChangeSpec := { name := "fnExactMeetingsOfWord", fn := fun _ => fun
  | [d] => { results := [.lit (.bool true)], args := [d] }
  | _ => none }
def fnExactMeetingsOfWordRow : OpenClaim := { program := "ytohfkikdcoefcaadoor", sum := "002fd31ab8f59b826c0c0f2c2ad24ba0d4719d65e9c9f2c05b92535c76d39a11", func := "loop.example/g01270/laws.FnExactMeetingsOfWord", spec := "fnExactMeetingsOfWord", inPlace := ["internal/bytealg.IndexByteString", "internal/bytealg.IndexString"], named := ["unicode/utf8.first", "unicode/utf8.acceptRanges", "internal/bytealg.MaxLen"], apart := false, laid := [("unicode/utf8.acceptRanges", laid_unicode_utf8_acceptRanges), ("unicode/utf8.first", laid_unicode_utf8_first)] }
def FnExactMeetingsOfWordSaid : Prop := fnExactMeetingsOfWordRow.holds Tryd.pinned (OpenSpec.ofChange fnExactMeetingsOfWordSpec)

/-- ITS FALSE NEIGHBOUR: 'it returns false'. Refute it at one input. -/
def fnExactMeetingsOfWordWrong : ChangeSpec := { name := "fnExactMeetingsOfWord", fn := fun _ => fun
  | [d] => { results := [.lit (.bool false)], args := [d] }
  | _ => none }
def FnExactMeetingsOfWordWrongFalsely : Prop := fnExactMeetingsOfWordRow.holds Tryd.pinned (OpenSpec.ofChange fnExactMeetingsOfWordWrong)

/-- 'laws.FnExactMeetingsBySteps': WHATEVER THE INPUT: true; the input reads as it did. -/
def fnExactMeetingsByStepsSpec : ChangeSpec := { name := "fnExactMeetingsBySteps", fn := fun _ => fun
  | [d] => { results := [.lit (.bool true)], args := [d] }
  | _ => none }
def fnExactMeetingsByStepsRow : OpenClaim := { program := "ytohfkikdcoefcaadoor", sum := "002fd31ab8f59b826c0c0f2c2ad24ba0d4719d65e9c9f2c05b92535c76d39a11", func := "loop.example/g01270/laws.FnExactMeetingsBySteps", spec := "fnExactMeetingsBySteps", inPlace := ["internal/bytealg.IndexByteString", "internal/bytealg.IndexString", "internal/bytealg.CountString", "internal/abi.NoEscape", "internal/bytealg.MakeNoZero"], named := ["unicode/utf8.first", "unicode/utf8.acceptRanges", "internal/bytealg.MaxLen"], apart := false, laid := [("unicode/utf8.acceptRanges", laid_unicode_utf8_acceptRanges), ("unicode/utf8.first", laid_unicode_utf8_first)] }
def FnExactMeetingsByStepsSaid : Prop := fnExactMeetingsByStepsRow.holds Tryd.pinned (OpenSpec.ofChange fnExactMeetingsByStepsSpec)

/-- ITS FALSE NEIGHBOUR: 'it returns false'. Refute it at one input. -/
def fnExactMeetingsByStepsWrong : ChangeSpec := { name := "fnExactMeetingsBySteps", fn := fun _ => fun
  | [d] => { results := [.lit (.bool false)], args := [d] }
  | _ => none }
def FnExactMeetingsByStepsWrongFalsely : Prop := fnExactMeetingsByStepsRow.holds Tryd.pinned (OpenSpec.ofChange fnExactMeetingsByStepsWrong)

/-- 'laws.FnExactNumbersOfWord': WHATEVER THE INPUT: true; the input reads as it did. -/
def fnExactNumbersOfWordSpec : ChangeSpec := { name := "fnExactNumbersOfWord", fn := fun _ => fun
  | [d] => { results := [.lit (.bool true)], args := [d] }
  | _ => none }
def fnExactNumbersOfWordRow : OpenClaim := { program := "ytohfkikdcoefcaadoor", sum := "002fd31ab8f59b826c0c0f2c2ad24ba0d4719d65e9c9f2c05b92535c76d39a11", func := "loop.example/g01270/laws.FnExactNumbersOfWord", spec := "fnExactNumbersOfWord", inPlace := ["internal/bytealg.IndexByteString", "internal/bytealg.IndexString"], named := ["unicode/utf8.first", "unicode/utf8.acceptRanges", "internal/bytealg.MaxLen"], apart := false, laid := [("unicode/utf8.acceptRanges", laid_unicode_utf8_acceptRanges), ("unicode/utf8.first", laid_unicode_utf8_first)] }
def FnExactNumbersOfWordSaid : Prop := fnExactNumbersOfWordRow.holds Tryd.pinned (OpenSpec.ofChange fnExactNumbersOfWordSpec)

/-- ITS FALSE NEIGHBOUR: 'it returns false'. Refute it at one input. -/
def fnExactNumbersOfWordWrong : ChangeSpec := { name := "fnExactNumbersOfWord", fn := fun _ => fun
  | [d] => { results := [.lit (.bool false)], args := [d] }
  | _ => none }
def FnExactNumbersOfWordWrongFalsely : Prop := fnExactNumbersOfWordRow.holds Tryd.pinned (OpenSpec.ofChange fnExactNumbersOfWordWrong)

/-- 'laws.FnExactOtherSide': WHATEVER THE INPUT: true; the input reads as it did. -/
def fnExactOtherSideSpec : ChangeSpec := { name := "fnExactOtherSide", fn := fun _ => fun
  | [d] => { results := [.lit (.bool true)], args := [d] }
  | _ => none }
def fnExactOtherSideRow : OpenClaim := { program := "ytohfkikdcoefcaadoor", sum := "002fd31ab8f59b826c0c0f2c2ad24ba0d4719d65e9c9f2c05b92535c76d39a11", func := "loop.example/g01270/laws.FnExactOtherSide", spec := "fnExactOtherSide", inPlace := ["internal/bytealg.IndexByteString", "internal/bytealg.IndexString"], named := ["unicode/utf8.first", "unicode/utf8.acceptRanges", "internal/bytealg.MaxLen"], apart := false, laid := [("unicode/utf8.acceptRanges", laid_unicode_utf8_acceptRanges), ("unicode/utf8.first", laid_unicode_utf8_first)] }
def FnExactOtherSideSaid : Prop := fnExactOtherSideRow.holds Tryd.pinned (OpenSpec.ofChange fnExactOtherSideSpec)

/-- ITS FALSE NEIGHBOUR: 'it returns false'. Refute it at one input. -/
def fnExactOtherSideWrong : ChangeSpec := { name := "fnExactOtherSide", fn := fun _ => fun
  | [d] => { results := [.lit (.bool false)], args := [d] }
  | _ => none }
def FnExactOtherSideWrongFalsely : Prop := fnExactOtherSideRow.holds Tryd.pinned (OpenSpec.ofChange fnExactOtherSideWrong)

/-- 'laws.FnExactCountWords': WHATEVER THE INPUT: true; the input reads as it did. -/
def fnExactCountWordsSpec : ChangeSpec := { name := "fnExactCountWords", fn := fun _ => fun
  | [d1, d2, d3] => { results := [.lit (.bool true)], args := [d1, d2, d3] }
  | _ => none }
def fnExactCountWordsRow : OpenClaim := { program := "ytohfkikdcoefcaadoor", sum := "002fd31ab8f59b826c0c0f2c2ad24ba0d4719d65e9c9f2c05b92535c76d39a11", func := "loop.example/g01270/laws.FnExactCountWords", spec := "fnExactCountWords", inPlace := ["internal/abi.NoEscape", "internal/bytealg.MakeNoZero", "internal/bytealg.CountString", "internal/bytealg.IndexByteString", "internal/bytealg.IndexString"], recurses := true, named := ["internal/bytealg.MaxLen", "unicode/utf8.first", "unicode/utf8.acceptRanges"], apart := false, laid := [("unicode/utf8.acceptRanges", laid_unicode_utf8_acceptRanges), ("unicode/utf8.first", laid_unicode_utf8_first)] }
def FnExactCountWordsSaid : Prop := fnExactCountWordsRow.holds Tryd.pinned (OpenSpec.ofChange fnExactCountWordsSpec)

/-- ITS FALSE NEIGHBOUR: 'it returns false'. Refute it at one input. -/
def fnExactCountWordsWrong : ChangeSpec := { name := "fnExactCountWords", fn := fun _ => fun
  | [d1, d2, d3] => { results := [.lit (.bool false)], args := [d1, d2, d3] }
  | _ => none }
def FnExactCountWordsWrongFalsely : Prop := fnExactCountWordsRow.holds Tryd.pinned (OpenSpec.ofChange fnExactCountWordsWrong)

/-- 'laws.FnExactWordsBefore': WHATEVER THE INPUT: true; the input reads as it did. -/
def fnExactWordsBeforeSpec : ChangeSpec := { name := "fnExactWordsBefore", fn := fun _ => fun
  | [d] => { results := [.lit (.bool true)], args := [d] }
  | _ => none }
def fnExactWordsBeforeRow : OpenClaim := { program := "ytohfkikdcoefcaadoor", sum := "002fd31ab8f59b826c0c0f2c2ad24ba0d4719d65e9c9f2c05b92535c76d39a11", func := "loop.example/g01270/laws.FnExactWordsBefore", spec := "fnExactWordsBefore", inPlace := ["internal/bytealg.IndexByteString", "internal/bytealg.IndexString", "internal/bytealg.CountString", "internal/abi.NoEscape", "internal/bytealg.MakeNoZero"], recurses := true, named := ["unicode/utf8.first", "unicode/utf8.acceptRanges", "internal/bytealg.MaxLen"], apart := false, laid := [("unicode/utf8.acceptRanges", laid_unicode_utf8_acceptRanges), ("unicode/utf8.first", laid_unicode_utf8_first)] }
def FnExactWordsBeforeSaid : Prop := fnExactWordsBeforeRow.holds Tryd.pinned (OpenSpec.ofChange fnExactWordsBeforeSpec)

/-- ITS FALSE NEIGHBOUR: 'it returns false'. Refute it at one input. -/
def fnExactWordsBeforeWrong : ChangeSpec := { name := "fnExactWordsBefore", fn := fun _ => fun
  | [d] => { results := [.lit (.bool false)], args := [d] }
  | _ => none }
def FnExactWordsBeforeWrongFalsely : Prop := fnExactWordsBeforeRow.holds Tryd.pinned (OpenSpec.ofChange fnExactWordsBeforeWrong)

/- THE SECOND FORM. 'bulk': how many values and letters a reading holds, each counted each time it is reached (what is shared counts as often as it is met; a slice's spare places count too). A statement '..UptoSaid' is the law's where the arguments, and the package variables that the reading takes, are together of bulk at most 1048576: NARROWER than '..Said'. Prove '..Said' where nothing that the law and all that it calls make is longer than what came in: it says more and counts as full. Else prove '..UptoSaid'. A law counts once. -/
mutual
def uptoBulk {H : Type} : DataW H → Nat
  | .lit (.string bytes) => bytes.length + 1
  | .lit _ => 1
  | .nil => 1
  | .ptr d => uptoBulk d + 1
  | .slice elems spare => uptoBulkAll elems + uptoBulkAll spare + 1
  | .agg parts => uptoBulkAll parts + 1
  | .iface _ d => uptoBulk d + 1
  | .map entries => uptoBulkEntries entries + 1
  | .held _ => 1
def uptoBulkAll {H : Type} : List (DataW H) → Nat
  | [] => 0
  | d :: r => uptoBulk d + uptoBulkAll r
def uptoBulkEntries {H : Type} : List (Lit × DataW H) → Nat
  | [] => 0
  | x :: r => uptoBulkEntry x + uptoBulkEntries r
def uptoBulkEntry {H : Type} : Lit × DataW H → Nat
  | (.string bytes, d) => bytes.length + uptoBulk d + 1
  | (_, d) => uptoBulk d + 1
 end
def uptoSmall : (H : Type) → List (DataW H) → Bool := fun _ ds => decide (uptoBulkAll ds ≤ 1048576)
def OpenSpec.upto (s : _root_.Go.ChangeSpec) : _root_.Go.OpenSpec := { _root_.Go.OpenSpec.ofChange s with cond := some uptoSmall }

/-- 'laws.FnExactIsWord', WHERE WHAT IT READS IS OF BULK AT MOST 1048576: true; the input reads as it did. -/
def fnExactIsWordUptoRow : OpenClaim := { program := "ytohfkikdcoefcaadoor", sum := "002fd31ab8f59b826c0c0f2c2ad24ba0d4719d65e9c9f2c05b92535c76d39a11", func := "loop.example/g01270/laws.FnExactIsWord", spec := "fnExactIsWord", inPlace := ["internal/bytealg.IndexByteString", "internal/bytealg.IndexString"], named := ["unicode/utf8.first", "unicode/utf8.acceptRanges", "internal/bytealg.MaxLen"], apart := false, laid := [("unicode/utf8.acceptRanges", laid_unicode_utf8_acceptRanges), ("unicode/utf8.first", laid_unicode_utf8_first)], narrowed := true }
def FnExactIsWordUptoSaid : Prop := fnExactIsWordUptoRow.holds Tryd.pinned (OpenSpec.upto fnExactIsWordSpec)

/-- 'laws.FnExactStepWord', WHERE WHAT IT READS IS OF BULK AT MOST 1048576: true; the input reads as it did. -/
def fnExactStepWordUptoRow : OpenClaim := { program := "ytohfkikdcoefcaadoor", sum := "002fd31ab8f59b826c0c0f2c2ad24ba0d4719d65e9c9f2c05b92535c76d39a11", func := "loop.example/g01270/laws.FnExactStepWord", spec := "fnExactStepWord", inPlace := ["internal/bytealg.IndexByteString", "internal/bytealg.IndexString", "internal/bytealg.CountString", "internal/abi.NoEscape", "internal/bytealg.MakeNoZero"], named := ["unicode/utf8.first", "unicode/utf8.acceptRanges", "internal/bytealg.MaxLen"], apart := false, laid := [("unicode/utf8.acceptRanges", laid_unicode_utf8_acceptRanges), ("unicode/utf8.first", laid_unicode_utf8_first)], narrowed := true }
def FnExactStepWordUptoSaid : Prop := fnExactStepWordUptoRow.holds Tryd.pinned (OpenSpec.upto fnExactStepWordSpec)

/-- 'laws.FnExactWordAfter', WHERE WHAT IT READS IS OF BULK AT MOST 1048576: true; the input reads as it did. -/
def fnExactWordAfterUptoRow : OpenClaim := { program := "ytohfkikdcoefcaadoor", sum := "002fd31ab8f59b826c0c0f2c2ad24ba0d4719d65e9c9f2c05b92535c76d39a11", func := "loop.example/g01270/laws.FnExactWordAfter", spec := "fnExactWordAfter", inPlace := ["internal/bytealg.IndexByteString", "internal/bytealg.IndexString", "internal/bytealg.CountString", "internal/abi.NoEscape", "internal/bytealg.MakeNoZero"], named := ["unicode/utf8.first", "unicode/utf8.acceptRanges", "internal/bytealg.MaxLen"], apart := false, laid := [("unicode/utf8.acceptRanges", laid_unicode_utf8_acceptRanges), ("unicode/utf8.first", laid_unicode_utf8_first)], narrowed := true }
def FnExactWordAfterUptoSaid : Prop := fnExactWordAfterUptoRow.holds Tryd.pinned (OpenSpec.upto fnExactWordAfterSpec)

/-- 'laws.FnExactStepsToRest', WHERE WHAT IT READS IS OF BULK AT MOST 1048576: true; the input reads as it did. -/
def fnExactStepsToRestUptoRow : OpenClaim := { program := "ytohfkikdcoefcaadoor", sum := "002fd31ab8f59b826c0c0f2c2ad24ba0d4719d65e9c9f2c05b92535c76d39a11", func := "loop.example/g01270/laws.FnExactStepsToRest", spec := "fnExactStepsToRest", inPlace := ["internal/bytealg.IndexByteString", "internal/bytealg.IndexString", "internal/bytealg.CountString", "internal/abi.NoEscape", "internal/bytealg.MakeNoZero"], named := ["unicode/utf8.first", "unicode/utf8.acceptRanges", "internal/bytealg.MaxLen"], apart := false, laid := [("unicode/utf8.acceptRanges", laid_unicode_utf8_acceptRanges), ("unicode/utf8.first", laid_unicode_utf8_first)], narrowed := true }
def FnExactStepsToRestUptoSaid : Prop := fnExactStepsToRestUptoRow.holds Tryd.pinned (OpenSpec.upto fnExactStepsToRestSpec)

/-- 'laws.FnExactRestOf', WHERE WHAT IT READS IS OF BULK AT MOST 1048576: true; the input reads as it did. -/
def fnExactRestOfUptoRow : OpenClaim := { program := "ytohfkikdcoefcaadoor", sum := "002fd31ab8f59b826c0c0f2c2ad24ba0d4719d65e9c9f2c05b92535c76d39a11", func := "loop.example/g01270/laws.FnExactRestOf", spec := "fnExactRestOf", inPlace := ["internal/bytealg.IndexByteString", "internal/bytealg.IndexString", "internal/bytealg.CountString", "internal/abi.NoEscape", "internal/bytealg.MakeNoZero"], named := ["unicode/utf8.first", "unicode/utf8.acceptRanges", "internal/bytealg.MaxLen"], apart := false, laid := [("unicode/utf8.acceptRanges", laid_unicode_utf8_acceptRanges), ("unicode/utf8.first", laid_unicode_utf8_first)], narrowed := true }
def FnExactRestOfUptoSaid : Prop := fnExactRestOfUptoRow.holds Tryd.pinned (OpenSpec.upto fnExactRestOfSpec)

/-- 'laws.FnExactFacingPlaces', WHERE WHAT IT READS IS OF BULK AT MOST 1048576: true; the input reads as it did. -/
def fnExactFacingPlacesUptoRow : OpenClaim := { program := "ytohfkikdcoefcaadoor", sum := "002fd31ab8f59b826c0c0f2c2ad24ba0d4719d65e9c9f2c05b92535c76d39a11", func := "loop.example/g01270/laws.FnExactFacingPlaces", spec := "fnExactFacingPlaces", inPlace := ["internal/bytealg.IndexByteString", "internal/bytealg.IndexString"], named := ["unicode/utf8.first", "unicode/utf8.acceptRanges", "internal/bytealg.MaxLen"], apart := false, laid := [("unicode/utf8.acceptRanges", laid_unicode_utf8_acceptRanges), ("unicode/utf8.first", laid_unicode_utf8_first)], narrowed := true }
def FnExactFacingPlacesUptoSaid : Prop := fnExactFacingPlacesUptoRow.holds Tryd.pinned (OpenSpec.upto fnExactFacingPlacesSpec)

/-- 'laws.FnExactMeetingsOfWord', WHERE WHAT IT READS IS OF BULK AT MOST 1048576: true; the input reads as it did. -/
def fnExactMeetingsOfWordUptoRow : OpenClaim := { program := "ytohfkikdcoefcaadoor", sum := "002fd31ab8f59b826c0c0f2c2ad24ba0d4719d65e9c9f2c05b92535c76d39a11", func := "loop.example/g01270/laws.FnExactMeetingsOfWord", spec := "fnExactMeetingsOfWord", inPlace := ["internal/bytealg.IndexByteString", "internal/bytealg.IndexString"], named := ["unicode/utf8.first", "unicode/utf8.acceptRanges", "internal/bytealg.MaxLen"], apart := false, laid := [("unicode/utf8.acceptRanges", laid_unicode_utf8_acceptRanges), ("unicode/utf8.first", laid_unicode_utf8_first)], narrowed := true }
def FnExactMeetingsOfWordUptoSaid : Prop := fnExactMeetingsOfWordUptoRow.holds Tryd.pinned (OpenSpec.upto fnExactMeetingsOfWordSpec)

/-- 'laws.FnExactMeetingsBySteps', WHERE WHAT IT READS IS OF BULK AT MOST 1048576: true; the input reads as it did. -/
def fnExactMeetingsByStepsUptoRow : OpenClaim := { program := "ytohfkikdcoefcaadoor", sum := "002fd31ab8f59b826c0c0f2c2ad24ba0d4719d65e9c9f2c05b92535c76d39a11", func := "loop.example/g01270/laws.FnExactMeetingsBySteps", spec := "fnExactMeetingsBySteps", inPlace := ["internal/bytealg.IndexByteString", "internal/bytealg.IndexString", "internal/bytealg.CountString", "internal/abi.NoEscape", "internal/bytealg.MakeNoZero"], named := ["unicode/utf8.first", "unicode/utf8.acceptRanges", "internal/bytealg.MaxLen"], apart := false, laid := [("unicode/utf8.acceptRanges", laid_unicode_utf8_acceptRanges), ("unicode/utf8.first", laid_unicode_utf8_first)], narrowed := true }
def FnExactMeetingsByStepsUptoSaid : Prop := fnExactMeetingsByStepsUptoRow.holds Tryd.pinned (OpenSpec.upto fnExactMeetingsByStepsSpec)

/-- 'laws.FnExactNumbersOfWord', WHERE WHAT IT READS IS OF BULK AT MOST 1048576: true; the input reads as it did. -/
def fnExactNumbersOfWordUptoRow : OpenClaim := { program := "ytohfkikdcoefcaadoor", sum := "002fd31ab8f59b826c0c0f2c2ad24ba0d4719d65e9c9f2c05b92535c76d39a11", func := "loop.example/g01270/laws.FnExactNumbersOfWord", spec := "fnExactNumbersOfWord", inPlace := ["internal/bytealg.IndexByteString", "internal/bytealg.IndexString"], named := ["unicode/utf8.first", "unicode/utf8.acceptRanges", "internal/bytealg.MaxLen"], apart := false, laid := [("unicode/utf8.acceptRanges", laid_unicode_utf8_acceptRanges), ("unicode/utf8.first", laid_unicode_utf8_first)], narrowed := true }
def FnExactNumbersOfWordUptoSaid : Prop := fnExactNumbersOfWordUptoRow.holds Tryd.pinned (OpenSpec.upto fnExactNumbersOfWordSpec)

/-- 'laws.FnExactOtherSide', WHERE WHAT IT READS IS OF BULK AT MOST 1048576: true; the input reads as it did. -/
def fnExactOtherSideUptoRow : OpenClaim := { program := "ytohfkikdcoefcaadoor", sum := "002fd31ab8f59b826c0c0f2c2ad24ba0d4719d65e9c9f2c05b92535c76d39a11", func := "loop.example/g01270/laws.FnExactOtherSide", spec := "fnExactOtherSide", inPlace := ["internal/bytealg.IndexByteString", "internal/bytealg.IndexString"], named := ["unicode/utf8.first", "unicode/utf8.acceptRanges", "internal/bytealg.MaxLen"], apart := false, laid := [("unicode/utf8.acceptRanges", laid_unicode_utf8_acceptRanges), ("unicode/utf8.first", laid_unicode_utf8_first)], narrowed := true }
def FnExactOtherSideUptoSaid : Prop := fnExactOtherSideUptoRow.holds Tryd.pinned (OpenSpec.upto fnExactOtherSideSpec)

/-- 'laws.FnExactCountWords', WHERE WHAT IT READS IS OF BULK AT MOST 1048576: true; the input reads as it did. -/
def fnExactCountWordsUptoRow : OpenClaim := { program := "ytohfkikdcoefcaadoor", sum := "002fd31ab8f59b826c0c0f2c2ad24ba0d4719d65e9c9f2c05b92535c76d39a11", func := "loop.example/g01270/laws.FnExactCountWords", spec := "fnExactCountWords", inPlace := ["internal/abi.NoEscape", "internal/bytealg.MakeNoZero", "internal/bytealg.CountString", "internal/bytealg.IndexByteString", "internal/bytealg.IndexString"], recurses := true, named := ["internal/bytealg.MaxLen", "unicode/utf8.first", "unicode/utf8.acceptRanges"], apart := false, laid := [("unicode/utf8.acceptRanges", laid_unicode_utf8_acceptRanges), ("unicode/utf8.first", laid_unicode_utf8_first)], narrowed := true }
def FnExactCountWordsUptoSaid : Prop := fnExactCountWordsUptoRow.holds Tryd.pinned (OpenSpec.upto fnExactCountWordsSpec)

/-- 'laws.FnExactWordsBefore', WHERE WHAT IT READS IS OF BULK AT MOST 1048576: true; the input reads as it did. -/
def fnExactWordsBeforeUptoRow : OpenClaim := { program := "ytohfkikdcoefcaadoor", sum := "002fd31ab8f59b826c0c0f2c2ad24ba0d4719d65e9c9f2c05b92535c76d39a11", func := "loop.example/g01270/laws.FnExactWordsBefore", spec := "fnExactWordsBefore", inPlace := ["internal/bytealg.IndexByteString", "internal/bytealg.IndexString", "internal/bytealg.CountString", "internal/abi.NoEscape", "internal/bytealg.MakeNoZero"], recurses := true, named := ["unicode/utf8.first", "unicode/utf8.acceptRanges", "internal/bytealg.MaxLen"], apart := false, laid := [("unicode/utf8.acceptRanges", laid_unicode_utf8_acceptRanges), ("unicode/utf8.first", laid_unicode_utf8_first)], narrowed := true }
def FnExactWordsBeforeUptoSaid : Prop := fnExactWordsBeforeUptoRow.holds Tryd.pinned (OpenSpec.upto fnExactWordsBeforeSpec)

end Rows
end Go.Proofs.YtohfkikdcoefcaaDoor
