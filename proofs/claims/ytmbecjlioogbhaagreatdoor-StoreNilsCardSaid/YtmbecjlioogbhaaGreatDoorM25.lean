/- Texts Door to Door of this seat, laid into one. -/
import Derived.Lay
import Derived.LaidOnce
import Derived.LaidHandle
import Derived.Test.YtmbecjlioogbhaaGreatDoorM24
set_option linter.unusedVariables false
set_option linter.unusedSimpArgs false
set_option linter.constructorNameAsVariable false
section
/-! What the rows of the tied laws share: a heap in which the listed tables lie. -/
namespace Go.Proofs.YtmbecjlioogbhaaGreatDoor
open Go.ChangeShapes Go.WideShapes Go.ChangeAt Go.RowKit

def laid2 : List (String × DataW Unit) := [("unicode/utf8.acceptRanges", Rows.laid_unicode_utf8_acceptRanges), ("unicode/utf8.first", Rows.laid_unicode_utf8_first)]
end Go.Proofs.YtmbecjlioogbhaaGreatDoor
end
