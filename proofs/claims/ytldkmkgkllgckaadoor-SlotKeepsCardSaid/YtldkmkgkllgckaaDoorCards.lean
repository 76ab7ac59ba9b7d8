/-
  DERIVED. GIVEN WITH THE SEED: THE CARDS: each row of YtldkmkgkllgckaaDoorRows.lean that lists a variable, with what it lists TIED to the program's text (the seventh form; the later family's looks); each row that meets fmt, with fmt's text TOLD by the authors' own Lean function (tested against real Go, not proved from fmt's source: count such statements apart). THE CARD IS WHAT COUNTS. Prove the row's statement (the work); the ties are given (YtldkmkgkllgckaaDoorTie.lean); close each card by the builder's one call (the guide's Derived/Test/ToyasCard.lean, 'card_holds'). Laid BY PROGRAM, IN A SANDBOX (cutbox-door.mjs). By AI agents, Wed Nov 11 2026. No macro, syntax, notation, axiom, sorry.
-/
import Derived.Test.YtldkmkgkllgckaaDoorRows
import GoSem.ClaimSeven
namespace Go.Proofs.YtldkmkgkllgckaaDoor
namespace Rows

/-- THE TIED CARD OF 'hibernaclelaw09.SlotParses'. -/
def slotParsesCard : Claim7 := { stood := { row := slotParsesRow, standIns := [], harness := (true, "22d9977568e1bf38a0f824c109c739bfc3f4fe9d32449728720fe380e5c8e9b4"), looks := false }, kinds := [], alts := [], laidByText := true, laidKinds := [.data, .pinned], laidTests := true, laidLooks := .later }
def SlotParsesCardSaid : Prop := Claim7.holds Tryd.pinned (.plain (OpenSpec.ofChange slotParsesSpec)) slotParsesCard

/-- THE TIED CARD OF 'hibernaclelaw09.SlotKeeps'. -/
def slotKeepsCard : Claim7 := { stood := { row := slotKeepsRow, standIns := [], harness := (true, "22d9977568e1bf38a0f824c109c739bfc3f4fe9d32449728720fe380e5c8e9b4"), looks := false }, kinds := [], alts := [], laidByText := true, laidKinds := [.data, .pinned], laidTests := true, laidLooks := .later }
def SlotKeepsCardSaid : Prop := Claim7.holds Tryd.pinned (.plain (OpenSpec.ofChange slotKeepsSpec)) slotKeepsCard

/-- THE SECOND FORM's CARD OF 'hibernaclelaw09.SlotParses'. -/
def slotParsesUptoCard : Claim7 := { stood := { row := slotParsesUptoRow, standIns := [], harness := (true, "22d9977568e1bf38a0f824c109c739bfc3f4fe9d32449728720fe380e5c8e9b4"), looks := false }, kinds := [], alts := [], laidByText := true, laidKinds := [.data, .pinned], laidTests := true, laidLooks := .later }
def SlotParsesUptoCardSaid : Prop := Claim7.holds Tryd.pinned (.plain (OpenSpec.upto slotParsesSpec)) slotParsesUptoCard

/-- THE SECOND FORM's CARD OF 'hibernaclelaw09.SlotKeeps'. -/
def slotKeepsUptoCard : Claim7 := { stood := { row := slotKeepsUptoRow, standIns := [], harness := (true, "22d9977568e1bf38a0f824c109c739bfc3f4fe9d32449728720fe380e5c8e9b4"), looks := false }, kinds := [], alts := [], laidByText := true, laidKinds := [.data, .pinned], laidTests := true, laidLooks := .later }
def SlotKeepsUptoCardSaid : Prop := Claim7.holds Tryd.pinned (.plain (OpenSpec.upto slotKeepsSpec)) slotKeepsUptoCard
end Rows
end Go.Proofs.YtldkmkgkllgckaaDoor
