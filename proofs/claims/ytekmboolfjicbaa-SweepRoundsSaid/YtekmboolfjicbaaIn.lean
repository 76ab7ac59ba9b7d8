/- A region that draws its order, whose operations yield the same in every world in which what lay lies as it lay: one walk serves every order. -/
import Derived.Test.YtekmboolfjicbaaBytes
import Derived.Deep.QuietTactic
import Derived.BigQuiet
namespace Go.Proofs.Ytekmboolfjicbaa
open Go.RowKit

/-- The worlds in which what lay lies as it lay. -/
def In (W : World) : Type := { w' : World // Below W.heap.size W w' }
theorem In.some (W : World) : Nonempty (In W) := ⟨⟨W, Below.refl _ _⟩⟩
theorem In.bys {W : World} (s : In W) {p : Option Addr} {n : Nat} {bs : List Nat} (h : Bys W p n bs) : Bys s.1 p n bs := h.below s.2

theorem region_in {P : Program} {id : Nat} {Q : Exit → Act → World → Prop} {a : Act} {w : World} {l : List Oper} (W : World) (hm : P.follows .mixedOrders = true) (hB : Region.lexB .any l.toArray = true) (hw : Below W.heap.size W w)
    (h : wpQuiet P l.toArray (fun w' => ∃ s : In W, w' = s.1) (fun a' => ∀ w', (∃ s : In W, w' = s.1) → Q .normal a' w') l a) : (Code.region id l.toArray true).wp P Q a w :=
  wp_region_quiet (C := fun w' => ∃ s : In W, w' = s.1) hm hB ⟨⟨_, hw.drew⟩, rfl⟩ (by simpa using h)

theorem Calls.quiet_in {P : Program} {f : FuncId} {args : Array Value} {W : World} {s : In W} {v : Value} (h : Calls P f args s.1 fun e w' => e = .returned v ∧ Below s.1.heap.size s.1 w') :
    Calls P f args s.1 fun e w'' => e = .returned v ∧ ∃ t : In W, w'' = t.1 :=
  h.mono fun _ w' ⟨he, hb⟩ => ⟨he, ⟨w', s.2.trans (hb.mono s.2.size)⟩, rfl⟩
theorem Calls.quiet_in_same {P : Program} {f : FuncId} {args : Array Value} {W : World} {s : In W} {v : Value} (h : Calls P f args s.1 fun e w' => e = .returned v ∧ s.1 = w') :
    Calls P f args s.1 fun e w'' => e = .returned v ∧ ∃ t : In W, w'' = t.1 :=
  h.mono fun _ _ ⟨he, hb⟩ => ⟨he, s, hb.symm⟩
end Go.Proofs.Ytekmboolfjicbaa
