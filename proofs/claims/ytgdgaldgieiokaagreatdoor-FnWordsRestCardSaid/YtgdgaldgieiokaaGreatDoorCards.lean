/-
  DERIVED. GIVEN WITH THE SEED: THE CARDS: each row of YtgdgaldgieiokaaGreatDoorRows.lean that lists a variable, with what it lists TIED to the program's text (the seventh form; the later family's looks); each row that meets fmt, with fmt's text TOLD by the authors' own Lean function (tested against real Go, not proved from fmt's source: count such statements apart). THE CARD IS WHAT COUNTS. Prove the row's statement (the work); the ties are given (YtgdgaldgieiokaaGreatDoorTie.lean); close each card by the builder's one call (the guide's Derived/Test/ToyasCard.lean, 'card_holds'). Laid BY PROGRAM, IN A SANDBOX (cutbox-door.mjs). By AI agents, Wed Nov 11 2026. No macro, syntax, notation, axiom, sorry.
-/
import Derived.Test.YtgdgaldgieiokaaGreatDoorRows
import GoSem.ClaimSeven
namespace Go.Proofs.YtgdgaldgieiokaaGreatDoor
namespace Rows

/-- THE TIED CARD OF 'laws.FnWordsRest'. -/
def fnWordsRestCard : Claim7 := { stood := { row := fnWordsRestRow, standIns := [], harness := (true, "173b456476b54ec048e513126b4612482f8d11eab278bb432c6fb84ba6064360"), looks := false }, kinds := [], alts := [], laidByText := true, laidKinds := [.data, .pinned], laidTests := true, laidLooks := .later }
def FnWordsRestCardSaid : Prop := Claim7.holds Tryz.pinned (.plain (OpenSpec.ofChange fnWordsRestSpec)) fnWordsRestCard

/-- THE SECOND FORM's CARD OF 'laws.FnWordsRest'. -/
def fnWordsRestUptoCard : Claim7 := { stood := { row := fnWordsRestUptoRow, standIns := [], harness := (true, "173b456476b54ec048e513126b4612482f8d11eab278bb432c6fb84ba6064360"), looks := false }, kinds := [], alts := [], laidByText := true, laidKinds := [.data, .pinned], laidTests := true, laidLooks := .later }
def FnWordsRestUptoCardSaid : Prop := Claim7.holds Tryz.pinned (.plain (OpenSpec.upto fnWordsRestSpec)) fnWordsRestUptoCard
end Rows
end Go.Proofs.YtgdgaldgieiokaaGreatDoor
