/-
  DERIVED. GIVEN WITH THE SEED: THE CARDS: each row of YtfjoahbboglgfaaDoorRows.lean that lists a variable, with what it lists TIED to the program's text (the seventh form; the later family's looks); each row that meets fmt, with fmt's text TOLD by the authors' own Lean function (tested against real Go, not proved from fmt's source: count such statements apart). THE CARD IS WHAT COUNTS. Prove the row's statement (the work); the ties are given (YtfjoahbboglgfaaDoorTie.lean); close each card by the builder's one call (the guide's Derived/Test/ToyasCard.lean, 'card_holds'). Laid BY PROGRAM, IN A SANDBOX (cutbox-door.mjs). By AI agents, Wed Nov 11 2026. No macro, syntax, notation, axiom, sorry.
-/
import Derived.Test.YtfjoahbboglgfaaDoorRows
import GoSem.ClaimSeven
namespace Go.Proofs.YtfjoahbboglgfaaDoor
namespace Rows

/-- THE TIED CARD OF 'hibernaclelaw01.FixSums'. -/
def fixSumsCard : Claim7 := { stood := { row := fixSumsRow, standIns := [], harness := (true, "f65dea727bbdd4c53c1566fcbf7244e1304a57e726052005154809300447eb4d"), looks := false }, kinds := [], alts := [], laidByText := true, laidKinds := [.data, .data, .data], laidTests := true, laidLooks := .later }
def FixSumsCardSaid : Prop := Claim7.holds Tryd.pinned (.plain (OpenSpec.ofChange fixSumsSpec)) fixSumsCard

/-- THE TIED CARD OF 'hibernaclelaw01.FixProducts'. -/
def fixProductsCard : Claim7 := { stood := { row := fixProductsRow, standIns := [], harness := (true, "f65dea727bbdd4c53c1566fcbf7244e1304a57e726052005154809300447eb4d"), looks := false }, kinds := [], alts := [], laidByText := true, laidKinds := [.data, .data, .data], laidTests := true, laidLooks := .later }
def FixProductsCardSaid : Prop := Claim7.holds Tryd.pinned (.plain (OpenSpec.ofChange fixProductsSpec)) fixProductsCard

/-- THE TIED CARD OF 'hibernaclelaw01.FixParts'. -/
def fixPartsCard : Claim7 := { stood := { row := fixPartsRow, standIns := [], harness := (true, "f65dea727bbdd4c53c1566fcbf7244e1304a57e726052005154809300447eb4d"), looks := false }, kinds := [], alts := [], laidByText := true, laidKinds := [.data, .data, .data], laidTests := true, laidLooks := .later }
def FixPartsCardSaid : Prop := Claim7.holds Tryd.pinned (.plain (OpenSpec.ofChange fixPartsSpec)) fixPartsCard

/-- THE TIED CARD OF 'hibernaclelaw01.FixDivides'. -/
def fixDividesCard : Claim7 := { stood := { row := fixDividesRow, standIns := [], harness := (true, "f65dea727bbdd4c53c1566fcbf7244e1304a57e726052005154809300447eb4d"), looks := false }, kinds := [], alts := [], laidByText := true, laidKinds := [.data, .data, .data], laidTests := true, laidLooks := .later }
def FixDividesCardSaid : Prop := Claim7.holds Tryd.pinned (.plain (OpenSpec.ofChange fixDividesSpec)) fixDividesCard

/-- THE TIED CARD OF 'hibernaclelaw01.FixPowers'. -/
def fixPowersCard : Claim7 := { stood := { row := fixPowersRow, standIns := [], harness := (true, "f65dea727bbdd4c53c1566fcbf7244e1304a57e726052005154809300447eb4d"), looks := false }, kinds := [], alts := [], laidByText := true, laidKinds := [.data, .data, .data], laidTests := true, laidLooks := .later }
def FixPowersCardSaid : Prop := Claim7.holds Tryd.pinned (.plain (OpenSpec.ofChange fixPowersSpec)) fixPowersCard

/-- THE TIED CARD OF 'hibernaclelaw01.FixTexts'. -/
def fixTextsCard : Claim7 := { stood := { row := fixTextsRow, standIns := [], harness := (true, "f65dea727bbdd4c53c1566fcbf7244e1304a57e726052005154809300447eb4d"), looks := false }, kinds := [], alts := [], laidByText := true, laidKinds := [.data, .data, .data], laidTests := true, laidLooks := .later }
def FixTextsCardSaid : Prop := Claim7.holds Tryd.pinned (.plain (OpenSpec.ofChange fixTextsSpec)) fixTextsCard

/-- THE TIED CARD OF 'hibernaclelaw01.FixBack'. -/
def fixBackCard : Claim7 := { stood := { row := fixBackRow, standIns := [], harness := (true, "f65dea727bbdd4c53c1566fcbf7244e1304a57e726052005154809300447eb4d"), looks := false }, kinds := [], alts := [], laidByText := true, laidKinds := [.data, .data, .data], laidTests := true, laidLooks := .later }
def FixBackCardSaid : Prop := Claim7.holds Tryd.pinned (.plain (OpenSpec.ofChange fixBackSpec)) fixBackCard

/-- THE SECOND FORM's CARD OF 'hibernaclelaw01.FixSums'. -/
def fixSumsUptoCard : Claim7 := { stood := { row := fixSumsUptoRow, standIns := [], harness := (true, "f65dea727bbdd4c53c1566fcbf7244e1304a57e726052005154809300447eb4d"), looks := false }, kinds := [], alts := [], laidByText := true, laidKinds := [.data, .data, .data], laidTests := true, laidLooks := .later }
def FixSumsUptoCardSaid : Prop := Claim7.holds Tryd.pinned (.plain (OpenSpec.upto fixSumsSpec)) fixSumsUptoCard

/-- THE SECOND FORM's CARD OF 'hibernaclelaw01.FixProducts'. -/
def fixProductsUptoCard : Claim7 := { stood := { row := fixProductsUptoRow, standIns := [], harness := (true, "f65dea727bbdd4c53c1566fcbf7244e1304a57e726052005154809300447eb4d"), looks := false }, kinds := [], alts := [], laidByText := true, laidKinds := [.data, .data, .data], laidTests := true, laidLooks := .later }
def FixProductsUptoCardSaid : Prop := Claim7.holds Tryd.pinned (.plain (OpenSpec.upto fixProductsSpec)) fixProductsUptoCard

/-- THE SECOND FORM's CARD OF 'hibernaclelaw01.FixParts'. -/
def fixPartsUptoCard : Claim7 := { stood := { row := fixPartsUptoRow, standIns := [], harness := (true, "f65dea727bbdd4c53c1566fcbf7244e1304a57e726052005154809300447eb4d"), looks := false }, kinds := [], alts := [], laidByText := true, laidKinds := [.data, .data, .data], laidTests := true, laidLooks := .later }
def FixPartsUptoCardSaid : Prop := Claim7.holds Tryd.pinned (.plain (OpenSpec.upto fixPartsSpec)) fixPartsUptoCard

/-- THE SECOND FORM's CARD OF 'hibernaclelaw01.FixDivides'. -/
def fixDividesUptoCard : Claim7 := { stood := { row := fixDividesUptoRow, standIns := [], harness := (true, "f65dea727bbdd4c53c1566fcbf7244e1304a57e726052005154809300447eb4d"), looks := false }, kinds := [], alts := [], laidByText := true, laidKinds := [.data, .data, .data], laidTests := true, laidLooks := .later }
def FixDividesUptoCardSaid : Prop := Claim7.holds Tryd.pinned (.plain (OpenSpec.upto fixDividesSpec)) fixDividesUptoCard

/-- THE SECOND FORM's CARD OF 'hibernaclelaw01.FixPowers'. -/
def fixPowersUptoCard : Claim7 := { stood := { row := fixPowersUptoRow, standIns := [], harness := (true, "f65dea727bbdd4c53c1566fcbf7244e1304a57e726052005154809300447eb4d"), looks := false }, kinds := [], alts := [], laidByText := true, laidKinds := [.data, .data, .data], laidTests := true, laidLooks := .later }
def FixPowersUptoCardSaid : Prop := Claim7.holds Tryd.pinned (.plain (OpenSpec.upto fixPowersSpec)) fixPowersUptoCard

/-- THE SECOND FORM's CARD OF 'hibernaclelaw01.FixTexts'. -/
def fixTextsUptoCard : Claim7 := { stood := { row := fixTextsUptoRow, standIns := [], harness := (true, "f65dea727bbdd4c53c1566fcbf7244e1304a57e726052005154809300447eb4d"), looks := false }, kinds := [], alts := [], laidByText := true, laidKinds := [.data, .data, .data], laidTests := true, laidLooks := .later }
def FixTextsUptoCardSaid : Prop := Claim7.holds Tryd.pinned (.plain (OpenSpec.upto fixTextsSpec)) fixTextsUptoCard

/-- THE SECOND FORM's CARD OF 'hibernaclelaw01.FixBack'. -/
def fixBackUptoCard : Claim7 := { stood := { row := fixBackUptoRow, standIns := [], harness := (true, "f65dea727bbdd4c53c1566fcbf7244e1304a57e726052005154809300447eb4d"), looks := false }, kinds := [], alts := [], laidByText := true, laidKinds := [.data, .data, .data], laidTests := true, laidLooks := .later }
def FixBackUptoCardSaid : Prop := Claim7.holds Tryd.pinned (.plain (OpenSpec.upto fixBackSpec)) fixBackUptoCard
end Rows
end Go.Proofs.YtfjoahbboglgfaaDoor
