/- An object, copied. -/
import Derived.Test.YtekmboolfjicbaaHAsk2
set_option maxRecDepth 20000
set_option linter.unusedSimpArgs false
namespace Go.Proofs.Ytekmboolfjicbaa
open Go.RowKit

/-- Objects as they may be in a memory: so many values and bytes. -/
def Sm (L : Pls) : Prop := ∀ i c, clAt L i = some c → c.o.vs.length ≤ 256 ∧ c.o.bs.length ≤ 4096
theorem Cpy.zero (w : World) : Cpy w w ⟨0, [], []⟩ (.slice none 0 0) (.slice none 0 0) := ⟨World.ownsRow_nil _ _ _ _, World.ownsRow_nil _ _ _ _, Below.refl _ _⟩
section
variable {w w' : World} {g mb : Nat} {vr : Value} {S : Nat → Option Pos} {m : Hm}
end
end Go.Proofs.Ytekmboolfjicbaa
