/- What the rows of the tied laws share: a heap in which the listed tables lie. -/
import Derived.Test.YtldkmkgkllgckaaDoorLaw
import Derived.Lay
import Derived.LaidOnce
import Derived.LaidHandle
namespace Go.Proofs.YtldkmkgkllgckaaDoor
open Go.ChangeShapes Go.WideShapes Go.ChangeAt Go.RowKit

def laid2 : List (String × DataW Unit) := [("unicode/utf8.acceptRanges", Rows.laid_unicode_utf8_acceptRanges), ("unicode/utf8.first", Rows.laid_unicode_utf8_first)]
end Go.Proofs.YtldkmkgkllgckaaDoor
