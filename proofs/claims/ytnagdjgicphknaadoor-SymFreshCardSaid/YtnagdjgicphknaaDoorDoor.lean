/- What the rows of the tied laws share: a heap in which the listed tables lie. -/
import Derived.Test.YtnagdjgicphknaaDoorLaw
import Derived.Lay
import Derived.LaidOnce
import Derived.LaidHandle
namespace Go.Proofs.YtnagdjgicphknaaDoor
open Go.ChangeShapes Go.WideShapes Go.ChangeAt Go.RowKit

def laid3 : List (String × DataW Unit) := [("math/bits.deBruijn32tab", Rows.laid_math_bits_deBruijn32tab), ("math/bits.deBruijn64tab", Rows.laid_math_bits_deBruijn64tab), ("internal/strconv.uint64pow10", Rows.laid_internal_strconv_uint64pow10)]
end Go.Proofs.YtnagdjgicphknaaDoor
