/- A row of truths in memory; how many are true, and the least one from some on. -/
import Derived.Test.YtamfkglkgfggaaaClone
namespace Go.Proofs.Ytamfkglkgfggaaa
open Go.RowKit

/-- A slice of truths that reads as these. -/
structure Bls (w : World) (p : Option Addr) (n : Nat) (f : Nat → Bool) : Prop where
  inn : 0 < n → ∃ b o, p = some ⟨b, o, none⟩ ∧ ∀ i, i < n → w.cell? ⟨b, o + i, none⟩ = some (.bool (f i))
theorem Bls.at {w : World} {p : Option Addr} {n : Nat} {f : Nat → Bool} (h : Bls w p n f) (hn : 0 < n) : ∃ b o, p = some ⟨b, o, none⟩ ∧ ∀ i, i < n → w.cell? ⟨b, o + i, none⟩ = some (.bool (f i)) := h.inn hn
theorem Bls.keep {w w' : World} {p : Option Addr} {n : Nat} {f : Nat → Bool} (h : Bls w p n f) (hb : ∀ k, k < w.heap.size → (∀ b o, p = some ⟨b, o, none⟩ → k = b → w'.heap[k]? = w.heap[k]?)) : Bls w' p n f :=
  ⟨fun hn => by
    obtain ⟨b, o, e, hc⟩ := h.inn hn
    have hlt := World.block_lt_of_cell? w _ (hc 0 hn)
    exact ⟨b, o, e, fun i hi => (World.cell?_of_block (w := w) (hb b hlt b o e rfl)).trans (hc i hi)⟩⟩
theorem Bls.below {w w' : World} {p : Option Addr} {n : Nat} {f : Nat → Bool} (h : Bls w p n f) (hb : Below w.heap.size w w') : Bls w' p n f := h.keep fun k hk _ _ _ _ => hb.block k hk
/-- A row of truths that doesn't lie in a block stays while that one is written. -/
theorem Bls.only {w w' : World} {p : Option Addr} {n g : Nat} {f : Nat → Bool} (h : Bls w p n f) (hk : Only g w w') (hp : ∀ b o, p = some ⟨b, o, none⟩ → b ≠ g) : Bls w' p n f :=
  h.keep fun k hk2 b o e hkb => hk.block k hk2 (by rw [hkb]; exact hp b o e)
theorem Bls.zero (w : World) (p : Option Addr) (f : Nat → Bool) : Bls w p 0 f := ⟨fun h => absurd h (Nat.lt_irrefl 0)⟩
end Go.Proofs.Ytamfkglkgfggaaa
