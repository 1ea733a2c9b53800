/-
  DERIVED. GIVEN WITH THE SEED: THE CARDS: each row of YtpchgmcegholoaaDoorRows.lean that lists a variable, with what it lists TIED to the program's text (the seventh form; the later family's looks); each row that meets fmt, with fmt's text TOLD by the authors' own Lean function (tested against real Go, not proved from fmt's source: count such statements apart). THE CARD IS WHAT COUNTS. Prove the row's statement (the work); the ties are given (YtpchgmcegholoaaDoorTie.lean); close each card by the builder's one call (the guide's Derived/Test/ToyasCard.lean, 'card_holds'). Laid BY PROGRAM, IN A SANDBOX (cutbox-door.mjs). By AI agents, Wed Nov 11 2026. No macro, syntax, notation, axiom, sorry.
-/
import Derived.Test.YtpchgmcegholoaaDoorRows
import GoSem.ClaimSeven
namespace Go.Proofs.YtpchgmcegholoaaDoor
namespace Rows

/-- THE TIED CARD OF 'laws.FnExactParseRod'. -/
def fnExactParseRodCard : Claim7 := { stood := { row := fnExactParseRodRow, standIns := [], harness := (true, "f18ea830a52353ca2d93d1f1f171ae75a22dfe0fbc6648877bc1b7427af81213"), looks := true }, kinds := [], alts := [], laidByText := true, laidKinds := [.data, .data, .data, .sentinel, .sentinel], laidTests := true, laidLooks := .later }
def FnExactParseRodCardSaid : Prop := Claim7.holds Tryd.pinned (.plain (OpenSpec.ofChange fnExactParseRodSpec)) fnExactParseRodCard

/-- THE TIED CARD OF 'laws.FnExactParseCircle'. -/
def fnExactParseCircleCard : Claim7 := { stood := { row := fnExactParseCircleRow, standIns := [], harness := (true, "f18ea830a52353ca2d93d1f1f171ae75a22dfe0fbc6648877bc1b7427af81213"), looks := true }, kinds := [], alts := [], laidByText := true, laidKinds := [.data, .data, .data, .sentinel, .sentinel], laidTests := true, laidLooks := .later }
def FnExactParseCircleCardSaid : Prop := Claim7.holds Tryd.pinned (.plain (OpenSpec.ofChange fnExactParseCircleSpec)) fnExactParseCircleCard

/-- THE SECOND FORM's CARD OF 'laws.FnExactParseRod'. -/
def fnExactParseRodUptoCard : Claim7 := { stood := { row := fnExactParseRodUptoRow, standIns := [], harness := (true, "f18ea830a52353ca2d93d1f1f171ae75a22dfe0fbc6648877bc1b7427af81213"), looks := true }, kinds := [], alts := [], laidByText := true, laidKinds := [.data, .data, .data, .sentinel, .sentinel], laidTests := true, laidLooks := .later }
def FnExactParseRodUptoCardSaid : Prop := Claim7.holds Tryd.pinned (.plain (OpenSpec.upto fnExactParseRodSpec)) fnExactParseRodUptoCard

/-- THE SECOND FORM's CARD OF 'laws.FnExactParseCircle'. -/
def fnExactParseCircleUptoCard : Claim7 := { stood := { row := fnExactParseCircleUptoRow, standIns := [], harness := (true, "f18ea830a52353ca2d93d1f1f171ae75a22dfe0fbc6648877bc1b7427af81213"), looks := true }, kinds := [], alts := [], laidByText := true, laidKinds := [.data, .data, .data, .sentinel, .sentinel], laidTests := true, laidLooks := .later }
def FnExactParseCircleUptoCardSaid : Prop := Claim7.holds Tryd.pinned (.plain (OpenSpec.upto fnExactParseCircleSpec)) fnExactParseCircleUptoCard
end Rows
end Go.Proofs.YtpchgmcegholoaaDoor
