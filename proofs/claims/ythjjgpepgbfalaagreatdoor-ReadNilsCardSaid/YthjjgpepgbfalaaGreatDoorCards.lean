/-
  DERIVED. GIVEN WITH THE SEED: THE CARDS: each row of YthjjgpepgbfalaaGreatDoorRows.lean that lists a variable, with what it lists TIED to the program's text (the seventh form; the later family's looks); each row that meets fmt, with fmt's text TOLD by the authors' own Lean function (tested against real Go, not proved from fmt's source: count such statements apart). THE CARD IS WHAT COUNTS. Prove the row's statement (the work); the ties are given (YthjjgpepgbfalaaGreatDoorTie.lean); close each card by the builder's one call (the guide's Derived/Test/ToyasCard.lean, 'card_holds'). Laid BY PROGRAM, IN A SANDBOX (cutbox-door.mjs). By AI agents, Wed Nov 11 2026. No macro, syntax, notation, axiom, sorry.
-/
import Derived.Test.YthjjgpepgbfalaaGreatDoorRows
import GoSem.ClaimSeven
namespace Go.Proofs.YthjjgpepgbfalaaGreatDoor
namespace Rows

/-- THE TIED CARD OF 'hibernaclelaw17.ReadGoes'. -/
def readGoesCard : Claim7 := { stood := { row := readGoesRow, standIns := [], harness := (true, "7a14c9d8ad647adcff8e622d58e608190123ec998ca2a18ea6fd68e298b77983"), looks := true }, kinds := [], alts := [], laidByText := true, laidKinds := [.data, .data, .data, .pinned], laidTests := true, laidLooks := .later }
def ReadGoesCardSaid : Prop := Claim7.holds Tryz.pinned (.plain (OpenSpec.ofChange readGoesSpec)) readGoesCard

/-- THE TIED CARD OF 'hibernaclelaw17.ReadBrackets'. -/
def readBracketsCard : Claim7 := { stood := { row := readBracketsRow, standIns := [], harness := (true, "7a14c9d8ad647adcff8e622d58e608190123ec998ca2a18ea6fd68e298b77983"), looks := true }, kinds := [], alts := [], laidByText := true, laidKinds := [.data, .data, .data, .pinned], laidTests := true, laidLooks := .later }
def ReadBracketsCardSaid : Prop := Claim7.holds Tryz.pinned (.plain (OpenSpec.ofChange readBracketsSpec)) readBracketsCard

/-- THE TIED CARD OF 'hibernaclelaw17.ReadNils'. -/
def readNilsCard : Claim7 := { stood := { row := readNilsRow, standIns := [], harness := (true, "7a14c9d8ad647adcff8e622d58e608190123ec998ca2a18ea6fd68e298b77983"), looks := true }, kinds := [], alts := [], laidByText := true, laidKinds := [.data, .data, .data, .pinned], laidTests := true, laidLooks := .later }
def ReadNilsCardSaid : Prop := Claim7.holds Tryz.pinned (.plain (OpenSpec.ofChange readNilsSpec)) readNilsCard

/-- THE SECOND FORM's CARD OF 'hibernaclelaw17.ReadGoes'. -/
def readGoesUptoCard : Claim7 := { stood := { row := readGoesUptoRow, standIns := [], harness := (true, "7a14c9d8ad647adcff8e622d58e608190123ec998ca2a18ea6fd68e298b77983"), looks := true }, kinds := [], alts := [], laidByText := true, laidKinds := [.data, .data, .data, .pinned], laidTests := true, laidLooks := .later }
def ReadGoesUptoCardSaid : Prop := Claim7.holds Tryz.pinned (.plain (OpenSpec.upto readGoesSpec)) readGoesUptoCard

/-- THE SECOND FORM's CARD OF 'hibernaclelaw17.ReadBrackets'. -/
def readBracketsUptoCard : Claim7 := { stood := { row := readBracketsUptoRow, standIns := [], harness := (true, "7a14c9d8ad647adcff8e622d58e608190123ec998ca2a18ea6fd68e298b77983"), looks := true }, kinds := [], alts := [], laidByText := true, laidKinds := [.data, .data, .data, .pinned], laidTests := true, laidLooks := .later }
def ReadBracketsUptoCardSaid : Prop := Claim7.holds Tryz.pinned (.plain (OpenSpec.upto readBracketsSpec)) readBracketsUptoCard

/-- THE SECOND FORM's CARD OF 'hibernaclelaw17.ReadNils'. -/
def readNilsUptoCard : Claim7 := { stood := { row := readNilsUptoRow, standIns := [], harness := (true, "7a14c9d8ad647adcff8e622d58e608190123ec998ca2a18ea6fd68e298b77983"), looks := true }, kinds := [], alts := [], laidByText := true, laidKinds := [.data, .data, .data, .pinned], laidTests := true, laidLooks := .later }
def ReadNilsUptoCardSaid : Prop := Claim7.holds Tryz.pinned (.plain (OpenSpec.upto readNilsSpec)) readNilsUptoCard
end Rows
end Go.Proofs.YthjjgpepgbfalaaGreatDoor
