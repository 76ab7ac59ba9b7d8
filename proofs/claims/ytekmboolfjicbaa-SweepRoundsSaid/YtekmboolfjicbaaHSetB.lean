/- An object's byte set. -/
import Derived.Test.YtekmboolfjicbaaHSet
set_option maxRecDepth 20000
set_option linter.unusedSimpArgs false
namespace Go.Proofs.Ytekmboolfjicbaa
open Go.RowKit

section
variable {w w' : World} {g mb : Nat} {vr : Value} {S : Nat → Option Pos} {m : Hm}
end
end Go.Proofs.Ytekmboolfjicbaa
