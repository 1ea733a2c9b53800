/-
  DERIVED. GIVEN WITH THE SEED: THE CARDS: each row of YtjhnoamelbcogaaDoorRows.lean that lists a variable, with what it lists TIED to the program's text (the seventh form; the later family's looks); each row that meets fmt, with fmt's text TOLD by the authors' own Lean function (tested against real Go, not proved from fmt's source: count such statements apart). THE CARD IS WHAT COUNTS. Prove the row's statement (the work); the ties are given (YtjhnoamelbcogaaDoorTie.lean); close each card by the builder's one call (the guide's Derived/Test/ToyasCard.lean, 'card_holds'). Laid BY PROGRAM, IN A SANDBOX (cutbox-door.mjs). By AI agents, Wed Nov 11 2026. No macro, syntax, notation, axiom, sorry.
-/
import Derived.Test.YtjhnoamelbcogaaDoorRows
import GoSem.ClaimSeven
namespace Go.Proofs.YtjhnoamelbcogaaDoor
namespace Rows

/-- THE TIED CARD OF 'laws.FnExactRodText'. -/
def fnExactRodTextCard : Claim7 := { stood := { row := fnExactRodTextRow, standIns := [], harness := (true, "4fbbe65e4b2984c966ca31686e34286c89ab281d4dde933725e01aef127631ef"), looks := false }, kinds := [], alts := [], laidByText := true, laidKinds := [.data, .data, .data], laidTests := true, laidLooks := .later }
def FnExactRodTextCardSaid : Prop := Claim7.holds Tryd.pinned (.plain (OpenSpec.ofChange fnExactRodTextSpec)) fnExactRodTextCard

/-- THE TIED CARD OF 'laws.FnExactCircleText'. -/
def fnExactCircleTextCard : Claim7 := { stood := { row := fnExactCircleTextRow, standIns := [], harness := (true, "4fbbe65e4b2984c966ca31686e34286c89ab281d4dde933725e01aef127631ef"), looks := false }, kinds := [], alts := [], laidByText := true, laidKinds := [.data, .data, .data], laidTests := true, laidLooks := .later }
def FnExactCircleTextCardSaid : Prop := Claim7.holds Tryd.pinned (.plain (OpenSpec.ofChange fnExactCircleTextSpec)) fnExactCircleTextCard

/-- THE SECOND FORM's CARD OF 'laws.FnExactRodText'. -/
def fnExactRodTextUptoCard : Claim7 := { stood := { row := fnExactRodTextUptoRow, standIns := [], harness := (true, "4fbbe65e4b2984c966ca31686e34286c89ab281d4dde933725e01aef127631ef"), looks := false }, kinds := [], alts := [], laidByText := true, laidKinds := [.data, .data, .data], laidTests := true, laidLooks := .later }
def FnExactRodTextUptoCardSaid : Prop := Claim7.holds Tryd.pinned (.plain (OpenSpec.upto fnExactRodTextSpec)) fnExactRodTextUptoCard

/-- THE SECOND FORM's CARD OF 'laws.FnExactCircleText'. -/
def fnExactCircleTextUptoCard : Claim7 := { stood := { row := fnExactCircleTextUptoRow, standIns := [], harness := (true, "4fbbe65e4b2984c966ca31686e34286c89ab281d4dde933725e01aef127631ef"), looks := false }, kinds := [], alts := [], laidByText := true, laidKinds := [.data, .data, .data], laidTests := true, laidLooks := .later }
def FnExactCircleTextUptoCardSaid : Prop := Claim7.holds Tryd.pinned (.plain (OpenSpec.upto fnExactCircleTextSpec)) fnExactCircleTextUptoCard
end Rows
end Go.Proofs.YtjhnoamelbcogaaDoor
