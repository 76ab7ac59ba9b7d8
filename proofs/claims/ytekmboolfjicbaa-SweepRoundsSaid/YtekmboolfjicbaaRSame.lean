/- The document's Same. -/
import Derived.Test.YtekmboolfjicbaaHVal
import Derived.Test.YtekmboolfjicbaaStr
import Derived.Deep.Cut
set_option maxRecDepth 20000
set_option linter.unusedSimpArgs false
namespace Go.Proofs.Ytekmboolfjicbaa
open Go.RowKit

def sameO (a b : Ob) : Bool := decide (a.k = b.k) && (decide (a.bs = b.bs) && decide (a.vs = b.vs))
theorem sameO_iff {a b : Ob} : sameO a b = true ↔ a = b := by
  unfold sameO
  simp only [Bool.and_eq_true, decide_eq_true_iff]
  constructor
  · rintro ⟨h1, h2, h3⟩; cases a; cases b; simp only at h1 h2 h3; rw [h1, h2, h3]
  · rintro rfl; exact ⟨rfl, rfl, rfl⟩
/-- An object as it is handed on: it reads so. -/
structure ObW (w : World) (q : Option Addr) (n : Nat) (p : Option Addr) (d : Nat) (o : Ob) : Prop where
  vs : Vls w q n o.vs
  bs : Bys w p d o.bs
theorem ObW.below {w w' : World} {q p : Option Addr} {n d : Nat} {o : Ob} (h : ObW w q n p d o) (hb : Below w.heap.size w w') : ObW w' q n p d o := ⟨h.vs.below hb, h.bs.below hb⟩
theorem ObV.w {w : World} {q p : Option Addr} {n d : Nat} {o : Ob} (h : ObV w q n p d o) : ObW w q n p d o := ⟨h.vs, h.bs⟩
end Go.Proofs.Ytekmboolfjicbaa
