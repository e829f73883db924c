/-
  DERIVED. GIVEN WITH THE SEED: THE CARDS: each row of YtoipafnlcchmbaaGreatDoorRows.lean that lists a variable, with what it lists TIED to the program's text (the seventh form; the later family's looks); each row that meets fmt, with fmt's text TOLD by the authors' own Lean function (tested against real Go, not proved from fmt's source: count such statements apart). THE CARD IS WHAT COUNTS. Prove the row's statement (the work); the ties are given (YtoipafnlcchmbaaGreatDoorTie.lean); close each card by the builder's one call (the guide's Derived/Test/ToyasCard.lean, 'card_holds'). Laid BY PROGRAM, IN A SANDBOX (cutbox-door.mjs). By AI agents, Wed Nov 11 2026. No macro, syntax, notation, axiom, sorry.
-/
import Derived.Test.YtoipafnlcchmbaaGreatDoorRows
import GoSem.ClaimSeven
namespace Go.Proofs.YtoipafnlcchmbaaGreatDoor
namespace Rows

/-- THE TIED CARD OF 'flyoverlaw01.SoundNumbers'. -/
def soundNumbersCard : Claim7 := { stood := { row := soundNumbersRow, standIns := [], harness := (true, "8c873ed792576bb3ce4618d9f0eebc76a28cb57fdc1e28a32e5fb6c36d1ef330"), looks := false }, kinds := [], alts := [], laidByText := true, laidKinds := [.data, .data, .data, .data], laidTests := true, laidLooks := .later }
def SoundNumbersCardSaid : Prop := Claim7.holds Tryz.pinned (.plain (OpenSpec.ofChange soundNumbersSpec)) soundNumbersCard

/-- THE TIED CARD OF 'flyoverlaw01.SoundSamples'. -/
def soundSamplesCard : Claim7 := { stood := { row := soundSamplesRow, standIns := [], harness := (true, "8c873ed792576bb3ce4618d9f0eebc76a28cb57fdc1e28a32e5fb6c36d1ef330"), looks := false }, kinds := [], alts := [], laidByText := true, laidKinds := [.data, .data, .data, .data], laidTests := true, laidLooks := .later }
def SoundSamplesCardSaid : Prop := Claim7.holds Tryz.pinned (.plain (OpenSpec.ofChange soundSamplesSpec)) soundSamplesCard

/-- THE TIED CARD OF 'flyoverlaw01.SoundLevels'. -/
def soundLevelsCard : Claim7 := { stood := { row := soundLevelsRow, standIns := [], harness := (true, "8c873ed792576bb3ce4618d9f0eebc76a28cb57fdc1e28a32e5fb6c36d1ef330"), looks := false }, kinds := [], alts := [], laidByText := true, laidKinds := [.data, .data, .data, .data], laidTests := true, laidLooks := .later }
def SoundLevelsCardSaid : Prop := Claim7.holds Tryz.pinned (.plain (OpenSpec.ofChange soundLevelsSpec)) soundLevelsCard

/-- THE TIED CARD OF 'flyoverlaw01.SoundSums'. -/
def soundSumsCard : Claim7 := { stood := { row := soundSumsRow, standIns := [], harness := (true, "8c873ed792576bb3ce4618d9f0eebc76a28cb57fdc1e28a32e5fb6c36d1ef330"), looks := false }, kinds := [], alts := [], laidByText := true, laidKinds := [.data, .data, .data, .data], laidTests := true, laidLooks := .later }
def SoundSumsCardSaid : Prop := Claim7.holds Tryz.pinned (.plain (OpenSpec.ofChange soundSumsSpec)) soundSumsCard

/-- THE TIED CARD OF 'flyoverlaw01.SoundHours'. -/
def soundHoursCard : Claim7 := { stood := { row := soundHoursRow, standIns := [], harness := (true, "8c873ed792576bb3ce4618d9f0eebc76a28cb57fdc1e28a32e5fb6c36d1ef330"), looks := false }, kinds := [], alts := [], laidByText := true, laidKinds := [.data, .data, .data, .data], laidTests := true, laidLooks := .later }
def SoundHoursCardSaid : Prop := Claim7.holds Tryz.pinned (.plain (OpenSpec.ofChange soundHoursSpec)) soundHoursCard

/-- THE TIED CARD OF 'flyoverlaw01.SoundLosses'. -/
def soundLossesCard : Claim7 := { stood := { row := soundLossesRow, standIns := [], harness := (true, "8c873ed792576bb3ce4618d9f0eebc76a28cb57fdc1e28a32e5fb6c36d1ef330"), looks := false }, kinds := [], alts := [], laidByText := true, laidKinds := [.data, .data, .data, .data], laidTests := true, laidLooks := .later }
def SoundLossesCardSaid : Prop := Claim7.holds Tryz.pinned (.plain (OpenSpec.ofChange soundLossesSpec)) soundLossesCard

/-- THE TIED CARD OF 'flyoverlaw01.SoundPackets'. -/
def soundPacketsCard : Claim7 := { stood := { row := soundPacketsRow, standIns := [], harness := (true, "8c873ed792576bb3ce4618d9f0eebc76a28cb57fdc1e28a32e5fb6c36d1ef330"), looks := false }, kinds := [], alts := [], laidByText := true, laidKinds := [.data, .data, .data, .data], laidTests := true, laidLooks := .later }
def SoundPacketsCardSaid : Prop := Claim7.holds Tryz.pinned (.plain (OpenSpec.ofChange soundPacketsSpec)) soundPacketsCard

/-- THE TIED CARD OF 'flyoverlaw01.SoundReceives'. -/
def soundReceivesCard : Claim7 := { stood := { row := soundReceivesRow, standIns := [], harness := (true, "8c873ed792576bb3ce4618d9f0eebc76a28cb57fdc1e28a32e5fb6c36d1ef330"), looks := false }, kinds := [], alts := [], laidByText := true, laidKinds := [.data, .data, .data, .data], laidTests := true, laidLooks := .later }
def SoundReceivesCardSaid : Prop := Claim7.holds Tryz.pinned (.plain (OpenSpec.ofChange soundReceivesSpec)) soundReceivesCard

/-- THE TIED CARD OF 'flyoverlaw01.SoundStreams'. -/
def soundStreamsCard : Claim7 := { stood := { row := soundStreamsRow, standIns := [], harness := (true, "8c873ed792576bb3ce4618d9f0eebc76a28cb57fdc1e28a32e5fb6c36d1ef330"), looks := false }, kinds := [], alts := [], laidByText := true, laidKinds := [.data, .data, .data, .data], laidTests := true, laidLooks := .later }
def SoundStreamsCardSaid : Prop := Claim7.holds Tryz.pinned (.plain (OpenSpec.ofChange soundStreamsSpec)) soundStreamsCard

/-- THE TIED CARD OF 'flyoverlaw01.SoundStrings'. -/
def soundStringsCard : Claim7 := { stood := { row := soundStringsRow, standIns := [], harness := (true, "8c873ed792576bb3ce4618d9f0eebc76a28cb57fdc1e28a32e5fb6c36d1ef330"), looks := false }, kinds := [], alts := [], laidByText := true, laidKinds := [.data, .data, .data, .data, .data, .pinned], laidTests := true, laidLooks := .later }
def SoundStringsCardSaid : Prop := Claim7.holds Tryz.pinned (.plain (OpenSpec.ofChange soundStringsSpec)) soundStringsCard

/-- THE TIED CARD OF 'flyoverlaw01.SoundAdds'. -/
def soundAddsCard : Claim7 := { stood := { row := soundAddsRow, standIns := [], harness := (true, "8c873ed792576bb3ce4618d9f0eebc76a28cb57fdc1e28a32e5fb6c36d1ef330"), looks := false }, kinds := [], alts := [], laidByText := true, laidKinds := [.data, .data, .data, .data], laidTests := true, laidLooks := .later }
def SoundAddsCardSaid : Prop := Claim7.holds Tryz.pinned (.plain (OpenSpec.ofChange soundAddsSpec)) soundAddsCard

/-- THE TIED CARD OF 'flyoverlaw01.SoundTurns'. -/
def soundTurnsCard : Claim7 := { stood := { row := soundTurnsRow, standIns := [], harness := (true, "8c873ed792576bb3ce4618d9f0eebc76a28cb57fdc1e28a32e5fb6c36d1ef330"), looks := false }, kinds := [], alts := [], laidByText := true, laidKinds := [.data, .data, .data, .data], laidTests := true, laidLooks := .later }
def SoundTurnsCardSaid : Prop := Claim7.holds Tryz.pinned (.plain (OpenSpec.ofChange soundTurnsSpec)) soundTurnsCard

/-- THE TIED CARD OF 'flyoverlaw01.SoundSealed'. -/
def soundSealedCard : Claim7 := { stood := { row := soundSealedRow, standIns := [], harness := (true, "8c873ed792576bb3ce4618d9f0eebc76a28cb57fdc1e28a32e5fb6c36d1ef330"), looks := false }, kinds := [], alts := [], laidByText := true, laidKinds := [.data, .data, .data, .data], laidTests := true, laidLooks := .later }
def SoundSealedCardSaid : Prop := Claim7.holds Tryz.pinned (.plain (OpenSpec.ofChange soundSealedSpec)) soundSealedCard

/-- THE TIED CARD OF 'flyoverlaw01.SoundBack'. -/
def soundBackCard : Claim7 := { stood := { row := soundBackRow, standIns := [], harness := (true, "8c873ed792576bb3ce4618d9f0eebc76a28cb57fdc1e28a32e5fb6c36d1ef330"), looks := false }, kinds := [], alts := [], laidByText := true, laidKinds := [.data, .data, .data, .data, .data, .pinned], laidTests := true, laidLooks := .later }
def SoundBackCardSaid : Prop := Claim7.holds Tryz.pinned (.plain (OpenSpec.ofChange soundBackSpec)) soundBackCard

/-- THE SECOND FORM's CARD OF 'flyoverlaw01.SoundNumbers'. -/
def soundNumbersUptoCard : Claim7 := { stood := { row := soundNumbersUptoRow, standIns := [], harness := (true, "8c873ed792576bb3ce4618d9f0eebc76a28cb57fdc1e28a32e5fb6c36d1ef330"), looks := false }, kinds := [], alts := [], laidByText := true, laidKinds := [.data, .data, .data, .data], laidTests := true, laidLooks := .later }
def SoundNumbersUptoCardSaid : Prop := Claim7.holds Tryz.pinned (.plain (OpenSpec.upto soundNumbersSpec)) soundNumbersUptoCard

/-- THE SECOND FORM's CARD OF 'flyoverlaw01.SoundSamples'. -/
def soundSamplesUptoCard : Claim7 := { stood := { row := soundSamplesUptoRow, standIns := [], harness := (true, "8c873ed792576bb3ce4618d9f0eebc76a28cb57fdc1e28a32e5fb6c36d1ef330"), looks := false }, kinds := [], alts := [], laidByText := true, laidKinds := [.data, .data, .data, .data], laidTests := true, laidLooks := .later }
def SoundSamplesUptoCardSaid : Prop := Claim7.holds Tryz.pinned (.plain (OpenSpec.upto soundSamplesSpec)) soundSamplesUptoCard

/-- THE SECOND FORM's CARD OF 'flyoverlaw01.SoundLevels'. -/
def soundLevelsUptoCard : Claim7 := { stood := { row := soundLevelsUptoRow, standIns := [], harness := (true, "8c873ed792576bb3ce4618d9f0eebc76a28cb57fdc1e28a32e5fb6c36d1ef330"), looks := false }, kinds := [], alts := [], laidByText := true, laidKinds := [.data, .data, .data, .data], laidTests := true, laidLooks := .later }
def SoundLevelsUptoCardSaid : Prop := Claim7.holds Tryz.pinned (.plain (OpenSpec.upto soundLevelsSpec)) soundLevelsUptoCard

/-- THE SECOND FORM's CARD OF 'flyoverlaw01.SoundSums'. -/
def soundSumsUptoCard : Claim7 := { stood := { row := soundSumsUptoRow, standIns := [], harness := (true, "8c873ed792576bb3ce4618d9f0eebc76a28cb57fdc1e28a32e5fb6c36d1ef330"), looks := false }, kinds := [], alts := [], laidByText := true, laidKinds := [.data, .data, .data, .data], laidTests := true, laidLooks := .later }
def SoundSumsUptoCardSaid : Prop := Claim7.holds Tryz.pinned (.plain (OpenSpec.upto soundSumsSpec)) soundSumsUptoCard

/-- THE SECOND FORM's CARD OF 'flyoverlaw01.SoundHours'. -/
def soundHoursUptoCard : Claim7 := { stood := { row := soundHoursUptoRow, standIns := [], harness := (true, "8c873ed792576bb3ce4618d9f0eebc76a28cb57fdc1e28a32e5fb6c36d1ef330"), looks := false }, kinds := [], alts := [], laidByText := true, laidKinds := [.data, .data, .data, .data], laidTests := true, laidLooks := .later }
def SoundHoursUptoCardSaid : Prop := Claim7.holds Tryz.pinned (.plain (OpenSpec.upto soundHoursSpec)) soundHoursUptoCard

/-- THE SECOND FORM's CARD OF 'flyoverlaw01.SoundLosses'. -/
def soundLossesUptoCard : Claim7 := { stood := { row := soundLossesUptoRow, standIns := [], harness := (true, "8c873ed792576bb3ce4618d9f0eebc76a28cb57fdc1e28a32e5fb6c36d1ef330"), looks := false }, kinds := [], alts := [], laidByText := true, laidKinds := [.data, .data, .data, .data], laidTests := true, laidLooks := .later }
def SoundLossesUptoCardSaid : Prop := Claim7.holds Tryz.pinned (.plain (OpenSpec.upto soundLossesSpec)) soundLossesUptoCard

/-- THE SECOND FORM's CARD OF 'flyoverlaw01.SoundPackets'. -/
def soundPacketsUptoCard : Claim7 := { stood := { row := soundPacketsUptoRow, standIns := [], harness := (true, "8c873ed792576bb3ce4618d9f0eebc76a28cb57fdc1e28a32e5fb6c36d1ef330"), looks := false }, kinds := [], alts := [], laidByText := true, laidKinds := [.data, .data, .data, .data], laidTests := true, laidLooks := .later }
def SoundPacketsUptoCardSaid : Prop := Claim7.holds Tryz.pinned (.plain (OpenSpec.upto soundPacketsSpec)) soundPacketsUptoCard

/-- THE SECOND FORM's CARD OF 'flyoverlaw01.SoundReceives'. -/
def soundReceivesUptoCard : Claim7 := { stood := { row := soundReceivesUptoRow, standIns := [], harness := (true, "8c873ed792576bb3ce4618d9f0eebc76a28cb57fdc1e28a32e5fb6c36d1ef330"), looks := false }, kinds := [], alts := [], laidByText := true, laidKinds := [.data, .data, .data, .data], laidTests := true, laidLooks := .later }
def SoundReceivesUptoCardSaid : Prop := Claim7.holds Tryz.pinned (.plain (OpenSpec.upto soundReceivesSpec)) soundReceivesUptoCard

/-- THE SECOND FORM's CARD OF 'flyoverlaw01.SoundStreams'. -/
def soundStreamsUptoCard : Claim7 := { stood := { row := soundStreamsUptoRow, standIns := [], harness := (true, "8c873ed792576bb3ce4618d9f0eebc76a28cb57fdc1e28a32e5fb6c36d1ef330"), looks := false }, kinds := [], alts := [], laidByText := true, laidKinds := [.data, .data, .data, .data], laidTests := true, laidLooks := .later }
def SoundStreamsUptoCardSaid : Prop := Claim7.holds Tryz.pinned (.plain (OpenSpec.upto soundStreamsSpec)) soundStreamsUptoCard

/-- THE SECOND FORM's CARD OF 'flyoverlaw01.SoundStrings'. -/
def soundStringsUptoCard : Claim7 := { stood := { row := soundStringsUptoRow, standIns := [], harness := (true, "8c873ed792576bb3ce4618d9f0eebc76a28cb57fdc1e28a32e5fb6c36d1ef330"), looks := false }, kinds := [], alts := [], laidByText := true, laidKinds := [.data, .data, .data, .data, .data, .pinned], laidTests := true, laidLooks := .later }
def SoundStringsUptoCardSaid : Prop := Claim7.holds Tryz.pinned (.plain (OpenSpec.upto soundStringsSpec)) soundStringsUptoCard

/-- THE SECOND FORM's CARD OF 'flyoverlaw01.SoundAdds'. -/
def soundAddsUptoCard : Claim7 := { stood := { row := soundAddsUptoRow, standIns := [], harness := (true, "8c873ed792576bb3ce4618d9f0eebc76a28cb57fdc1e28a32e5fb6c36d1ef330"), looks := false }, kinds := [], alts := [], laidByText := true, laidKinds := [.data, .data, .data, .data], laidTests := true, laidLooks := .later }
def SoundAddsUptoCardSaid : Prop := Claim7.holds Tryz.pinned (.plain (OpenSpec.upto soundAddsSpec)) soundAddsUptoCard

/-- THE SECOND FORM's CARD OF 'flyoverlaw01.SoundTurns'. -/
def soundTurnsUptoCard : Claim7 := { stood := { row := soundTurnsUptoRow, standIns := [], harness := (true, "8c873ed792576bb3ce4618d9f0eebc76a28cb57fdc1e28a32e5fb6c36d1ef330"), looks := false }, kinds := [], alts := [], laidByText := true, laidKinds := [.data, .data, .data, .data], laidTests := true, laidLooks := .later }
def SoundTurnsUptoCardSaid : Prop := Claim7.holds Tryz.pinned (.plain (OpenSpec.upto soundTurnsSpec)) soundTurnsUptoCard

/-- THE SECOND FORM's CARD OF 'flyoverlaw01.SoundSealed'. -/
def soundSealedUptoCard : Claim7 := { stood := { row := soundSealedUptoRow, standIns := [], harness := (true, "8c873ed792576bb3ce4618d9f0eebc76a28cb57fdc1e28a32e5fb6c36d1ef330"), looks := false }, kinds := [], alts := [], laidByText := true, laidKinds := [.data, .data, .data, .data], laidTests := true, laidLooks := .later }
def SoundSealedUptoCardSaid : Prop := Claim7.holds Tryz.pinned (.plain (OpenSpec.upto soundSealedSpec)) soundSealedUptoCard

/-- THE SECOND FORM's CARD OF 'flyoverlaw01.SoundBack'. -/
def soundBackUptoCard : Claim7 := { stood := { row := soundBackUptoRow, standIns := [], harness := (true, "8c873ed792576bb3ce4618d9f0eebc76a28cb57fdc1e28a32e5fb6c36d1ef330"), looks := false }, kinds := [], alts := [], laidByText := true, laidKinds := [.data, .data, .data, .data, .data, .pinned], laidTests := true, laidLooks := .later }
def SoundBackUptoCardSaid : Prop := Claim7.holds Tryz.pinned (.plain (OpenSpec.upto soundBackSpec)) soundBackUptoCard
end Rows
end Go.Proofs.YtoipafnlcchmbaaGreatDoor
