/-
  DERIVED. GIVEN WITH THE SEED: THE CARDS: each row of YtfojldkiagemeaaDoorRows.lean that lists a variable, with what it lists TIED to the program's text (the seventh form; the later family's looks); each row that meets fmt, with fmt's text TOLD by the authors' own Lean function (tested against real Go, not proved from fmt's source: count such statements apart). THE CARD IS WHAT COUNTS. Prove the row's statement (the work); the ties are given (YtfojldkiagemeaaDoorTie.lean); close each card by the builder's one call (the guide's Derived/Test/ToyasCard.lean, 'card_holds'). Laid BY PROGRAM, IN A SANDBOX (cutbox-door.mjs). By AI agents, Wed Nov 11 2026. No macro, syntax, notation, axiom, sorry.
-/
import Derived.Test.YtfojldkiagemeaaDoorRows
import GoSem.ClaimSeven
namespace Go.Proofs.YtfojldkiagemeaaDoor
namespace Rows

/-- THE TIED CARD OF 'laws.FnExactRankOfWord'. -/
def fnExactRankOfWordCard : Claim7 := { stood := { row := fnExactRankOfWordRow, standIns := [], harness := (true, "10749b7f622d5460f2aebe49d1f732236df33c0f5b80bff491834f9f9dc6bf9f"), looks := false }, kinds := [], alts := [], laidByText := true, laidKinds := [.data, .pinned], laidTests := true, laidLooks := .later }
def FnExactRankOfWordCardSaid : Prop := Claim7.holds Tryd.pinned (.plain (OpenSpec.ofChange fnExactRankOfWordSpec)) fnExactRankOfWordCard

/-- THE SECOND FORM's CARD OF 'laws.FnExactRankOfWord'. -/
def fnExactRankOfWordUptoCard : Claim7 := { stood := { row := fnExactRankOfWordUptoRow, standIns := [], harness := (true, "10749b7f622d5460f2aebe49d1f732236df33c0f5b80bff491834f9f9dc6bf9f"), looks := false }, kinds := [], alts := [], laidByText := true, laidKinds := [.data, .pinned], laidTests := true, laidLooks := .later }
def FnExactRankOfWordUptoCardSaid : Prop := Claim7.holds Tryd.pinned (.plain (OpenSpec.upto fnExactRankOfWordSpec)) fnExactRankOfWordUptoCard
end Rows
end Go.Proofs.YtfojldkiagemeaaDoor
