/- The law FixPowers holds for every input, its listed tables tied to the program's own text. -/
import Derived.Test.YtfjoahbboglgfaaDoorPowers
import Derived.Test.YtfjoahbboglgfaaDoorTie
import Derived.Test.YtfjoahbboglgfaaDoorCards
import Derived.SevenTiedAt
namespace Go.Proofs.YtfjoahbboglgfaaDoor
open Go

theorem fixPowers_card : Rows.FixPowersCardSaid :=
  Claim7.holds_tied_plain_at .later [] [.data, .data, .data] true (true, "f65dea727bbdd4c53c1566fcbf7244e1304a57e726052005154809300447eb4d") false
    powers_holds (fun _ h => by cases h) (by kernel_rfl) (fun _ h => by cases h) fixPowers_row_tie rfl ⟨rfl, rfl⟩ (by kernel_rfl) rfl
    (fun f fn hf hfn => by
      obtain rfl : f = 7 := Option.some.inj ((show Tryd.prog.funcNamed "hibernacle/hibernaclelaw01.FixPowers" = some 7 by kernel_rfl).symm.trans hf) |>.symm
      obtain rfl : fn = Tryd.f7 := (Option.some.inj (Tryd.func7.symm.trans hfn)).symm
      exact ⟨by kernel_rfl, fun j t ht => by
        rw [Tryd.params7] at ht
        have hm : t ∈ [3] := by
          have h1 := Array.mem_of_getElem? ht
          simpa using h1
        have hall : ([3].all fun u => !Tryd.prog.wantsStandIn u) = true := by kernel_rfl
        exact (show Tryd.prog.wantsStandIn t = false by simpa using List.all_eq_true.1 hall t hm)⟩)
    (by kernel_rfl)
#print axioms fixPowers_card
end Go.Proofs.YtfjoahbboglgfaaDoor
