/-
  DERIVED. GIVEN WITH THE SEED: THE CARDS: each row of YtnagdjgicphknaaDoorRows.lean that lists a variable, with what it lists TIED to the program's text (the seventh form; the later family's looks); each row that meets fmt, with fmt's text TOLD by the authors' own Lean function (tested against real Go, not proved from fmt's source: count such statements apart). THE CARD IS WHAT COUNTS. Prove the row's statement (the work); the ties are given (YtnagdjgicphknaaDoorTie.lean); close each card by the builder's one call (the guide's Derived/Test/ToyasCard.lean, 'card_holds'). Laid BY PROGRAM, IN A SANDBOX (cutbox-door.mjs). By AI agents, Wed Nov 11 2026. No macro, syntax, notation, axiom, sorry.
-/
import Derived.Test.YtnagdjgicphknaaDoorRows
import GoSem.ClaimSeven
namespace Go.Proofs.YtnagdjgicphknaaDoor
namespace Rows

/-- THE TIED CARD OF 'hibernaclelaw10.SymPlays'. -/
def symPlaysCard : Claim7 := { stood := { row := symPlaysRow, standIns := [], harness := (true, "0002145295b06461e9231523a6610abb0bcd15e473aa0f123de8eaf1c009eddd"), looks := true }, kinds := [], alts := [], laidByText := true, laidKinds := [.data, .data, .data], laidTests := true, laidLooks := .later }
def SymPlaysCardSaid : Prop := Claim7.holds Tryd.pinned (.plain (OpenSpec.ofChange symPlaysSpec)) symPlaysCard

/-- THE TIED CARD OF 'hibernaclelaw10.SymNames'. -/
def symNamesCard : Claim7 := { stood := { row := symNamesRow, standIns := [], harness := (true, "0002145295b06461e9231523a6610abb0bcd15e473aa0f123de8eaf1c009eddd"), looks := true }, kinds := [], alts := [], laidByText := true, laidKinds := [.data, .data, .data], laidTests := true, laidLooks := .later }
def SymNamesCardSaid : Prop := Claim7.holds Tryd.pinned (.plain (OpenSpec.ofChange symNamesSpec)) symNamesCard

/-- THE TIED CARD OF 'hibernaclelaw10.SymFresh'. -/
def symFreshCard : Claim7 := { stood := { row := symFreshRow, standIns := [], harness := (true, "0002145295b06461e9231523a6610abb0bcd15e473aa0f123de8eaf1c009eddd"), looks := true }, kinds := [], alts := [], laidByText := true, laidKinds := [.data, .data, .data], laidTests := true, laidLooks := .later }
def SymFreshCardSaid : Prop := Claim7.holds Tryd.pinned (.plain (OpenSpec.ofChange symFreshSpec)) symFreshCard

/-- THE TIED CARD OF 'hibernaclelaw10.SymCopies'. -/
def symCopiesCard : Claim7 := { stood := { row := symCopiesRow, standIns := [], harness := (true, "0002145295b06461e9231523a6610abb0bcd15e473aa0f123de8eaf1c009eddd"), looks := true }, kinds := [], alts := [], laidByText := true, laidKinds := [.data, .data, .data], laidTests := true, laidLooks := .later }
def SymCopiesCardSaid : Prop := Claim7.holds Tryd.pinned (.plain (OpenSpec.ofChange symCopiesSpec)) symCopiesCard

/-- THE SECOND FORM's CARD OF 'hibernaclelaw10.SymPlays'. -/
def symPlaysUptoCard : Claim7 := { stood := { row := symPlaysUptoRow, standIns := [], harness := (true, "0002145295b06461e9231523a6610abb0bcd15e473aa0f123de8eaf1c009eddd"), looks := true }, kinds := [], alts := [], laidByText := true, laidKinds := [.data, .data, .data], laidTests := true, laidLooks := .later }
def SymPlaysUptoCardSaid : Prop := Claim7.holds Tryd.pinned (.plain (OpenSpec.upto symPlaysSpec)) symPlaysUptoCard

/-- THE SECOND FORM's CARD OF 'hibernaclelaw10.SymNames'. -/
def symNamesUptoCard : Claim7 := { stood := { row := symNamesUptoRow, standIns := [], harness := (true, "0002145295b06461e9231523a6610abb0bcd15e473aa0f123de8eaf1c009eddd"), looks := true }, kinds := [], alts := [], laidByText := true, laidKinds := [.data, .data, .data], laidTests := true, laidLooks := .later }
def SymNamesUptoCardSaid : Prop := Claim7.holds Tryd.pinned (.plain (OpenSpec.upto symNamesSpec)) symNamesUptoCard

/-- THE SECOND FORM's CARD OF 'hibernaclelaw10.SymFresh'. -/
def symFreshUptoCard : Claim7 := { stood := { row := symFreshUptoRow, standIns := [], harness := (true, "0002145295b06461e9231523a6610abb0bcd15e473aa0f123de8eaf1c009eddd"), looks := true }, kinds := [], alts := [], laidByText := true, laidKinds := [.data, .data, .data], laidTests := true, laidLooks := .later }
def SymFreshUptoCardSaid : Prop := Claim7.holds Tryd.pinned (.plain (OpenSpec.upto symFreshSpec)) symFreshUptoCard

/-- THE SECOND FORM's CARD OF 'hibernaclelaw10.SymCopies'. -/
def symCopiesUptoCard : Claim7 := { stood := { row := symCopiesUptoRow, standIns := [], harness := (true, "0002145295b06461e9231523a6610abb0bcd15e473aa0f123de8eaf1c009eddd"), looks := true }, kinds := [], alts := [], laidByText := true, laidKinds := [.data, .data, .data], laidTests := true, laidLooks := .later }
def SymCopiesUptoCardSaid : Prop := Claim7.holds Tryd.pinned (.plain (OpenSpec.upto symCopiesSpec)) symCopiesUptoCard
end Rows
end Go.Proofs.YtnagdjgicphknaaDoor
