/- The document's SetByte. -/
import Derived.Test.YtekmboolfjicbaaRSet
set_option maxRecDepth 20000
set_option linter.unusedSimpArgs false
namespace Go.Proofs.Ytekmboolfjicbaa
open Go.RowKit

section
variable {w w' : World} {F F' : Nat → Prop} {vl : Value} {W : Nat → Value × Value} {L : Pls}
end
end Go.Proofs.Ytekmboolfjicbaa
