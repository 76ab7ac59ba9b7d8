/-
  DERIVED. GIVEN WITH THE SEED: THE CARDS: each row of YtmbecjlioogbhaaGreatDoorRows.lean that lists a variable, with what it lists TIED to the program's text (the seventh form; the later family's looks); each row that meets fmt, with fmt's text TOLD by the authors' own Lean function (tested against real Go, not proved from fmt's source: count such statements apart). THE CARD IS WHAT COUNTS. Prove the row's statement (the work); the ties are given (YtmbecjlioogbhaaGreatDoorTie.lean); close each card by the builder's one call (the guide's Derived/Test/ToyasCard.lean, 'card_holds'). Laid BY PROGRAM, IN A SANDBOX (cutbox-door.mjs). By AI agents, Wed Nov 11 2026. No macro, syntax, notation, axiom, sorry.
-/
import Derived.Test.YtmbecjlioogbhaaGreatDoorRows
import GoSem.ClaimSeven
namespace Go.Proofs.YtmbecjlioogbhaaGreatDoor
namespace Rows

/-- THE TIED CARD OF 'hibernaclelaw12.StorePlays'. -/
def storePlaysCard : Claim7 := { stood := { row := storePlaysRow, standIns := [], harness := (true, "9caa97c407b930dfeab796e0e3712dc964f1b17cdfa3c0ff35d4a4e6c8c66fb0"), looks := false }, kinds := [], alts := [], laidByText := true, laidKinds := [.data, .pinned], laidTests := true, laidLooks := .later }
def StorePlaysCardSaid : Prop := Claim7.holds Tryz.pinned (.plain (OpenSpec.ofChange storePlaysSpec)) storePlaysCard

/-- THE TIED CARD OF 'hibernaclelaw12.StoreTorn'. -/
def storeTornCard : Claim7 := { stood := { row := storeTornRow, standIns := [], harness := (true, "9caa97c407b930dfeab796e0e3712dc964f1b17cdfa3c0ff35d4a4e6c8c66fb0"), looks := false }, kinds := [], alts := [], laidByText := true, laidKinds := [.data, .pinned], laidTests := true, laidLooks := .later }
def StoreTornCardSaid : Prop := Claim7.holds Tryz.pinned (.plain (OpenSpec.ofChange storeTornSpec)) storeTornCard

/-- THE TIED CARD OF 'hibernaclelaw12.StoreFulls'. -/
def storeFullsCard : Claim7 := { stood := { row := storeFullsRow, standIns := [], harness := (true, "9caa97c407b930dfeab796e0e3712dc964f1b17cdfa3c0ff35d4a4e6c8c66fb0"), looks := false }, kinds := [], alts := [], laidByText := true, laidKinds := [.data, .pinned], laidTests := true, laidLooks := .later }
def StoreFullsCardSaid : Prop := Claim7.holds Tryz.pinned (.plain (OpenSpec.ofChange storeFullsSpec)) storeFullsCard

/-- THE TIED CARD OF 'hibernaclelaw12.StoreTidy'. -/
def storeTidyCard : Claim7 := { stood := { row := storeTidyRow, standIns := [], harness := (true, "9caa97c407b930dfeab796e0e3712dc964f1b17cdfa3c0ff35d4a4e6c8c66fb0"), looks := false }, kinds := [], alts := [], laidByText := true, laidKinds := [.data, .pinned], laidTests := true, laidLooks := .later }
def StoreTidyCardSaid : Prop := Claim7.holds Tryz.pinned (.plain (OpenSpec.ofChange storeTidySpec)) storeTidyCard

/-- THE TIED CARD OF 'hibernaclelaw12.StoreNils'. -/
def storeNilsCard : Claim7 := { stood := { row := storeNilsRow, standIns := [], harness := (true, "9caa97c407b930dfeab796e0e3712dc964f1b17cdfa3c0ff35d4a4e6c8c66fb0"), looks := false }, kinds := [], alts := [], laidByText := true, laidKinds := [.data, .pinned], laidTests := true, laidLooks := .later }
def StoreNilsCardSaid : Prop := Claim7.holds Tryz.pinned (.plain (OpenSpec.ofChange storeNilsSpec)) storeNilsCard

/-- THE SECOND FORM's CARD OF 'hibernaclelaw12.StorePlays'. -/
def storePlaysUptoCard : Claim7 := { stood := { row := storePlaysUptoRow, standIns := [], harness := (true, "9caa97c407b930dfeab796e0e3712dc964f1b17cdfa3c0ff35d4a4e6c8c66fb0"), looks := false }, kinds := [], alts := [], laidByText := true, laidKinds := [.data, .pinned], laidTests := true, laidLooks := .later }
def StorePlaysUptoCardSaid : Prop := Claim7.holds Tryz.pinned (.plain (OpenSpec.upto storePlaysSpec)) storePlaysUptoCard

/-- THE SECOND FORM's CARD OF 'hibernaclelaw12.StoreTorn'. -/
def storeTornUptoCard : Claim7 := { stood := { row := storeTornUptoRow, standIns := [], harness := (true, "9caa97c407b930dfeab796e0e3712dc964f1b17cdfa3c0ff35d4a4e6c8c66fb0"), looks := false }, kinds := [], alts := [], laidByText := true, laidKinds := [.data, .pinned], laidTests := true, laidLooks := .later }
def StoreTornUptoCardSaid : Prop := Claim7.holds Tryz.pinned (.plain (OpenSpec.upto storeTornSpec)) storeTornUptoCard

/-- THE SECOND FORM's CARD OF 'hibernaclelaw12.StoreFulls'. -/
def storeFullsUptoCard : Claim7 := { stood := { row := storeFullsUptoRow, standIns := [], harness := (true, "9caa97c407b930dfeab796e0e3712dc964f1b17cdfa3c0ff35d4a4e6c8c66fb0"), looks := false }, kinds := [], alts := [], laidByText := true, laidKinds := [.data, .pinned], laidTests := true, laidLooks := .later }
def StoreFullsUptoCardSaid : Prop := Claim7.holds Tryz.pinned (.plain (OpenSpec.upto storeFullsSpec)) storeFullsUptoCard

/-- THE SECOND FORM's CARD OF 'hibernaclelaw12.StoreTidy'. -/
def storeTidyUptoCard : Claim7 := { stood := { row := storeTidyUptoRow, standIns := [], harness := (true, "9caa97c407b930dfeab796e0e3712dc964f1b17cdfa3c0ff35d4a4e6c8c66fb0"), looks := false }, kinds := [], alts := [], laidByText := true, laidKinds := [.data, .pinned], laidTests := true, laidLooks := .later }
def StoreTidyUptoCardSaid : Prop := Claim7.holds Tryz.pinned (.plain (OpenSpec.upto storeTidySpec)) storeTidyUptoCard

/-- THE SECOND FORM's CARD OF 'hibernaclelaw12.StoreNils'. -/
def storeNilsUptoCard : Claim7 := { stood := { row := storeNilsUptoRow, standIns := [], harness := (true, "9caa97c407b930dfeab796e0e3712dc964f1b17cdfa3c0ff35d4a4e6c8c66fb0"), looks := false }, kinds := [], alts := [], laidByText := true, laidKinds := [.data, .pinned], laidTests := true, laidLooks := .later }
def StoreNilsUptoCardSaid : Prop := Claim7.holds Tryz.pinned (.plain (OpenSpec.upto storeNilsSpec)) storeNilsUptoCard
end Rows
end Go.Proofs.YtmbecjlioogbhaaGreatDoor
