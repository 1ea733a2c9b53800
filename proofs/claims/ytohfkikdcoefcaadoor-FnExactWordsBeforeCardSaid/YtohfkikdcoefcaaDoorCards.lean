/-
  DERIVED. GIVEN WITH THE SEED: THE CARDS: each row of YtohfkikdcoefcaaDoorRows.lean that lists a variable, with what it lists TIED to the program's text (the seventh form; the later family's looks); each row that meets fmt, with fmt's text TOLD by the authors' own Lean function (tested against real Go, not proved from fmt's source: count such statements apart). THE CARD IS WHAT COUNTS. Prove the row's statement (the work); the ties are given (YtohfkikdcoefcaaDoorTie.lean); close each card by the builder's one call (the guide's Derived/Test/ToyasCard.lean, 'card_holds'). Laid BY PROGRAM, IN A SANDBOX (cutbox-door.mjs). By AI agents, Wed Nov 11 2026. No macro, syntax, notation, axiom, sorry.
-/
import Derived.Test.YtohfkikdcoefcaaDoorRows
import GoSem.ClaimSeven
namespace Go.Proofs.YtohfkikdcoefcaaDoor
namespace Rows

/-- THE TIED CARD OF 'laws.FnExactIsWord'. -/
def fnExactIsWordCard : Claim7 := { stood := { row := fnExactIsWordRow, standIns := [], harness := (true, "b0f83d42b0c0b36b6bf73abd20881c2586bc3a6ccdedac5a8783067b0dea6673"), looks := false }, kinds := [], alts := [], laidByText := true, laidKinds := [.data, .pinned], laidTests := true, laidLooks := .later }
def FnExactIsWordCardSaid : Prop := Claim7.holds Tryd.pinned (.plain (OpenSpec.ofChange fnExactIsWordSpec)) fnExactIsWordCard

/-- THE TIED CARD OF 'laws.FnExactStepWord'. -/
def fnExactStepWordCard : Claim7 := { stood := { row := fnExactStepWordRow, standIns := [], harness := (true, "b0f83d42b0c0b36b6bf73abd20881c2586bc3a6ccdedac5a8783067b0dea6673"), looks := false }, kinds := [], alts := [], laidByText := true, laidKinds := [.data, .pinned], laidTests := true, laidLooks := .later }
def FnExactStepWordCardSaid : Prop := Claim7.holds Tryd.pinned (.plain (OpenSpec.ofChange fnExactStepWordSpec)) fnExactStepWordCard

/-- THE TIED CARD OF 'laws.FnExactWordAfter'. -/
def fnExactWordAfterCard : Claim7 := { stood := { row := fnExactWordAfterRow, standIns := [], harness := (true, "b0f83d42b0c0b36b6bf73abd20881c2586bc3a6ccdedac5a8783067b0dea6673"), looks := false }, kinds := [], alts := [], laidByText := true, laidKinds := [.data, .pinned], laidTests := true, laidLooks := .later }
def FnExactWordAfterCardSaid : Prop := Claim7.holds Tryd.pinned (.plain (OpenSpec.ofChange fnExactWordAfterSpec)) fnExactWordAfterCard

/-- THE TIED CARD OF 'laws.FnExactStepsToRest'. -/
def fnExactStepsToRestCard : Claim7 := { stood := { row := fnExactStepsToRestRow, standIns := [], harness := (true, "b0f83d42b0c0b36b6bf73abd20881c2586bc3a6ccdedac5a8783067b0dea6673"), looks := false }, kinds := [], alts := [], laidByText := true, laidKinds := [.data, .pinned], laidTests := true, laidLooks := .later }
def FnExactStepsToRestCardSaid : Prop := Claim7.holds Tryd.pinned (.plain (OpenSpec.ofChange fnExactStepsToRestSpec)) fnExactStepsToRestCard

/-- THE TIED CARD OF 'laws.FnExactRestOf'. -/
def fnExactRestOfCard : Claim7 := { stood := { row := fnExactRestOfRow, standIns := [], harness := (true, "b0f83d42b0c0b36b6bf73abd20881c2586bc3a6ccdedac5a8783067b0dea6673"), looks := false }, kinds := [], alts := [], laidByText := true, laidKinds := [.data, .pinned], laidTests := true, laidLooks := .later }
def FnExactRestOfCardSaid : Prop := Claim7.holds Tryd.pinned (.plain (OpenSpec.ofChange fnExactRestOfSpec)) fnExactRestOfCard

/-- THE TIED CARD OF 'laws.FnExactFacingPlaces'. -/
def fnExactFacingPlacesCard : Claim7 := { stood := { row := fnExactFacingPlacesRow, standIns := [], harness := (true, "b0f83d42b0c0b36b6bf73abd20881c2586bc3a6ccdedac5a8783067b0dea6673"), looks := false }, kinds := [], alts := [], laidByText := true, laidKinds := [.data, .pinned], laidTests := true, laidLooks := .later }
def FnExactFacingPlacesCardSaid : Prop := Claim7.holds Tryd.pinned (.plain (OpenSpec.ofChange fnExactFacingPlacesSpec)) fnExactFacingPlacesCard

/-- THE TIED CARD OF 'laws.FnExactMeetingsOfWord'. -/
def fnExactMeetingsOfWordCard : Claim7 := { stood := { row := fnExactMeetingsOfWordRow, standIns := [], harness := (true, "b0f83d42b0c0b36b6bf73abd20881c2586bc3a6ccdedac5a8783067b0dea6673"), looks := false }, kinds := [], alts := [], laidByText := true, laidKinds := [.data, .pinned], laidTests := true, laidLooks := .later }
def FnExactMeetingsOfWordCardSaid : Prop := Claim7.holds Tryd.pinned (.plain (OpenSpec.ofChange fnExactMeetingsOfWordSpec)) fnExactMeetingsOfWordCard

/-- THE TIED CARD OF 'laws.FnExactMeetingsBySteps'. -/
def fnExactMeetingsByStepsCard : Claim7 := { stood := { row := fnExactMeetingsByStepsRow, standIns := [], harness := (true, "b0f83d42b0c0b36b6bf73abd20881c2586bc3a6ccdedac5a8783067b0dea6673"), looks := false }, kinds := [], alts := [], laidByText := true, laidKinds := [.data, .pinned], laidTests := true, laidLooks := .later }
def FnExactMeetingsByStepsCardSaid : Prop := Claim7.holds Tryd.pinned (.plain (OpenSpec.ofChange fnExactMeetingsByStepsSpec)) fnExactMeetingsByStepsCard

/-- THE TIED CARD OF 'laws.FnExactNumbersOfWord'. -/
def fnExactNumbersOfWordCard : Claim7 := { stood := { row := fnExactNumbersOfWordRow, standIns := [], harness := (true, "b0f83d42b0c0b36b6bf73abd20881c2586bc3a6ccdedac5a8783067b0dea6673"), looks := false }, kinds := [], alts := [], laidByText := true, laidKinds := [.data, .pinned], laidTests := true, laidLooks := .later }
def FnExactNumbersOfWordCardSaid : Prop := Claim7.holds Tryd.pinned (.plain (OpenSpec.ofChange fnExactNumbersOfWordSpec)) fnExactNumbersOfWordCard

/-- THE TIED CARD OF 'laws.FnExactOtherSide'. -/
def fnExactOtherSideCard : Claim7 := { stood := { row := fnExactOtherSideRow, standIns := [], harness := (true, "b0f83d42b0c0b36b6bf73abd20881c2586bc3a6ccdedac5a8783067b0dea6673"), looks := false }, kinds := [], alts := [], laidByText := true, laidKinds := [.data, .pinned], laidTests := true, laidLooks := .later }
def FnExactOtherSideCardSaid : Prop := Claim7.holds Tryd.pinned (.plain (OpenSpec.ofChange fnExactOtherSideSpec)) fnExactOtherSideCard

/-- THE TIED CARD OF 'laws.FnExactCountWords'. -/
def fnExactCountWordsCard : Claim7 := { stood := { row := fnExactCountWordsRow, standIns := [], harness := (true, "b0f83d42b0c0b36b6bf73abd20881c2586bc3a6ccdedac5a8783067b0dea6673"), looks := false }, kinds := [], alts := [], laidByText := true, laidKinds := [.data, .pinned], laidTests := true, laidLooks := .later }
def FnExactCountWordsCardSaid : Prop := Claim7.holds Tryd.pinned (.plain (OpenSpec.ofChange fnExactCountWordsSpec)) fnExactCountWordsCard

/-- THE TIED CARD OF 'laws.FnExactWordsBefore'. -/
def fnExactWordsBeforeCard : Claim7 := { stood := { row := fnExactWordsBeforeRow, standIns := [], harness := (true, "b0f83d42b0c0b36b6bf73abd20881c2586bc3a6ccdedac5a8783067b0dea6673"), looks := false }, kinds := [], alts := [], laidByText := true, laidKinds := [.data, .pinned], laidTests := true, laidLooks := .later }
def FnExactWordsBeforeCardSaid : Prop := Claim7.holds Tryd.pinned (.plain (OpenSpec.ofChange fnExactWordsBeforeSpec)) fnExactWordsBeforeCard

/-- THE SECOND FORM's CARD OF 'laws.FnExactIsWord'. -/
def fnExactIsWordUptoCard : Claim7 := { stood := { row := fnExactIsWordUptoRow, standIns := [], harness := (true, "b0f83d42b0c0b36b6bf73abd20881c2586bc3a6ccdedac5a8783067b0dea6673"), looks := false }, kinds := [], alts := [], laidByText := true, laidKinds := [.data, .pinned], laidTests := true, laidLooks := .later }
def FnExactIsWordUptoCardSaid : Prop := Claim7.holds Tryd.pinned (.plain (OpenSpec.upto fnExactIsWordSpec)) fnExactIsWordUptoCard

/-- THE SECOND FORM's CARD OF 'laws.FnExactStepWord'. -/
def fnExactStepWordUptoCard : Claim7 := { stood := { row := fnExactStepWordUptoRow, standIns := [], harness := (true, "b0f83d42b0c0b36b6bf73abd20881c2586bc3a6ccdedac5a8783067b0dea6673"), looks := false }, kinds := [], alts := [], laidByText := true, laidKinds := [.data, .pinned], laidTests := true, laidLooks := .later }
def FnExactStepWordUptoCardSaid : Prop := Claim7.holds Tryd.pinned (.plain (OpenSpec.upto fnExactStepWordSpec)) fnExactStepWordUptoCard

/-- THE SECOND FORM's CARD OF 'laws.FnExactWordAfter'. -/
def fnExactWordAfterUptoCard : Claim7 := { stood := { row := fnExactWordAfterUptoRow, standIns := [], harness := (true, "b0f83d42b0c0b36b6bf73abd20881c2586bc3a6ccdedac5a8783067b0dea6673"), looks := false }, kinds := [], alts := [], laidByText := true, laidKinds := [.data, .pinned], laidTests := true, laidLooks := .later }
def FnExactWordAfterUptoCardSaid : Prop := Claim7.holds Tryd.pinned (.plain (OpenSpec.upto fnExactWordAfterSpec)) fnExactWordAfterUptoCard

/-- THE SECOND FORM's CARD OF 'laws.FnExactStepsToRest'. -/
def fnExactStepsToRestUptoCard : Claim7 := { stood := { row := fnExactStepsToRestUptoRow, standIns := [], harness := (true, "b0f83d42b0c0b36b6bf73abd20881c2586bc3a6ccdedac5a8783067b0dea6673"), looks := false }, kinds := [], alts := [], laidByText := true, laidKinds := [.data, .pinned], laidTests := true, laidLooks := .later }
def FnExactStepsToRestUptoCardSaid : Prop := Claim7.holds Tryd.pinned (.plain (OpenSpec.upto fnExactStepsToRestSpec)) fnExactStepsToRestUptoCard

/-- THE SECOND FORM's CARD OF 'laws.FnExactRestOf'. -/
def fnExactRestOfUptoCard : Claim7 := { stood := { row := fnExactRestOfUptoRow, standIns := [], harness := (true, "b0f83d42b0c0b36b6bf73abd20881c2586bc3a6ccdedac5a8783067b0dea6673"), looks := false }, kinds := [], alts := [], laidByText := true, laidKinds := [.data, .pinned], laidTests := true, laidLooks := .later }
def FnExactRestOfUptoCardSaid : Prop := Claim7.holds Tryd.pinned (.plain (OpenSpec.upto fnExactRestOfSpec)) fnExactRestOfUptoCard

/-- THE SECOND FORM's CARD OF 'laws.FnExactFacingPlaces'. -/
def fnExactFacingPlacesUptoCard : Claim7 := { stood := { row := fnExactFacingPlacesUptoRow, standIns := [], harness := (true, "b0f83d42b0c0b36b6bf73abd20881c2586bc3a6ccdedac5a8783067b0dea6673"), looks := false }, kinds := [], alts := [], laidByText := true, laidKinds := [.data, .pinned], laidTests := true, laidLooks := .later }
def FnExactFacingPlacesUptoCardSaid : Prop := Claim7.holds Tryd.pinned (.plain (OpenSpec.upto fnExactFacingPlacesSpec)) fnExactFacingPlacesUptoCard

/-- THE SECOND FORM's CARD OF 'laws.FnExactMeetingsOfWord'. -/
def fnExactMeetingsOfWordUptoCard : Claim7 := { stood := { row := fnExactMeetingsOfWordUptoRow, standIns := [], harness := (true, "b0f83d42b0c0b36b6bf73abd20881c2586bc3a6ccdedac5a8783067b0dea6673"), looks := false }, kinds := [], alts := [], laidByText := true, laidKinds := [.data, .pinned], laidTests := true, laidLooks := .later }
def FnExactMeetingsOfWordUptoCardSaid : Prop := Claim7.holds Tryd.pinned (.plain (OpenSpec.upto fnExactMeetingsOfWordSpec)) fnExactMeetingsOfWordUptoCard

/-- THE SECOND FORM's CARD OF 'laws.FnExactMeetingsBySteps'. -/
def fnExactMeetingsByStepsUptoCard : Claim7 := { stood := { row := fnExactMeetingsByStepsUptoRow, standIns := [], harness := (true, "b0f83d42b0c0b36b6bf73abd20881c2586bc3a6ccdedac5a8783067b0dea6673"), looks := false }, kinds := [], alts := [], laidByText := true, laidKinds := [.data, .pinned], laidTests := true, laidLooks := .later }
def FnExactMeetingsByStepsUptoCardSaid : Prop := Claim7.holds Tryd.pinned (.plain (OpenSpec.upto fnExactMeetingsByStepsSpec)) fnExactMeetingsByStepsUptoCard

/-- THE SECOND FORM's CARD OF 'laws.FnExactNumbersOfWord'. -/
def fnExactNumbersOfWordUptoCard : Claim7 := { stood := { row := fnExactNumbersOfWordUptoRow, standIns := [], harness := (true, "b0f83d42b0c0b36b6bf73abd20881c2586bc3a6ccdedac5a8783067b0dea6673"), looks := false }, kinds := [], alts := [], laidByText := true, laidKinds := [.data, .pinned], laidTests := true, laidLooks := .later }
def FnExactNumbersOfWordUptoCardSaid : Prop := Claim7.holds Tryd.pinned (.plain (OpenSpec.upto fnExactNumbersOfWordSpec)) fnExactNumbersOfWordUptoCard

/-- THE SECOND FORM's CARD OF 'laws.FnExactOtherSide'. -/
def fnExactOtherSideUptoCard : Claim7 := { stood := { row := fnExactOtherSideUptoRow, standIns := [], harness := (true, "b0f83d42b0c0b36b6bf73abd20881c2586bc3a6ccdedac5a8783067b0dea6673"), looks := false }, kinds := [], alts := [], laidByText := true, laidKinds := [.data, .pinned], laidTests := true, laidLooks := .later }
def FnExactOtherSideUptoCardSaid : Prop := Claim7.holds Tryd.pinned (.plain (OpenSpec.upto fnExactOtherSideSpec)) fnExactOtherSideUptoCard

/-- THE SECOND FORM's CARD OF 'laws.FnExactCountWords'. -/
def fnExactCountWordsUptoCard : Claim7 := { stood := { row := fnExactCountWordsUptoRow, standIns := [], harness := (true, "b0f83d42b0c0b36b6bf73abd20881c2586bc3a6ccdedac5a8783067b0dea6673"), looks := false }, kinds := [], alts := [], laidByText := true, laidKinds := [.data, .pinned], laidTests := true, laidLooks := .later }
def FnExactCountWordsUptoCardSaid : Prop := Claim7.holds Tryd.pinned (.plain (OpenSpec.upto fnExactCountWordsSpec)) fnExactCountWordsUptoCard

/-- THE SECOND FORM's CARD OF 'laws.FnExactWordsBefore'. -/
def fnExactWordsBeforeUptoCard : Claim7 := { stood := { row := fnExactWordsBeforeUptoRow, standIns := [], harness := (true, "b0f83d42b0c0b36b6bf73abd20881c2586bc3a6ccdedac5a8783067b0dea6673"), looks := false }, kinds := [], alts := [], laidByText := true, laidKinds := [.data, .pinned], laidTests := true, laidLooks := .later }
def FnExactWordsBeforeUptoCardSaid : Prop := Claim7.holds Tryd.pinned (.plain (OpenSpec.upto fnExactWordsBeforeSpec)) fnExactWordsBeforeUptoCard
end Rows
end Go.Proofs.YtohfkikdcoefcaaDoor
