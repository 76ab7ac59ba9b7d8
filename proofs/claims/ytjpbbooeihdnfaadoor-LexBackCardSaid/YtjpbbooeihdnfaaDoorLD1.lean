/- A scanner amid a text. -/
import Derived.Test.YtjpbbooeihdnfaaDoorLC9
import Derived.Deep.RegionHeld3
import Derived.Deep.RegionLawGrows
import Derived.Deep.RegionWith
set_option maxRecDepth 20000
set_option linter.unusedSimpArgs false
set_option linter.unusedVariables false
namespace Go.Proofs.YtjpbbooeihdnfaaDoor
open Go.RowKit

/-- The cells of tokens with their places. -/
def tkL : List (Tk × Nat) → List Value
  | [] => []
  | (t, a) :: l => (tkC t (a : Int)).toList ++ tkL l
theorem tkL_append (l m : List (Tk × Nat)) : tkL (l ++ m) = tkL l ++ tkL m := by
  induction l with
  | nil => rfl
  | cons x l ih => obtain ⟨t, a⟩ := x; show _ ++ tkL (l ++ m) = _; rw [ih, ← List.append_assoc]; rfl
theorem tkL_len (l : List (Tk × Nat)) : (tkL l).length = l.length * 4 := by
  induction l with
  | nil => rfl
  | cons x l ih => obtain ⟨t, a⟩ := x; show (_ ++ tkL l).length = _; rw [List.length_append, ih]; simp [tkC]; omega
/-- A scanner at block b over a text, at a place, with these tokens; all that is its own lies from B on. -/
structure Scn (w : World) (B b : Nat) (S : ByteArray) (a : Nat) (v : Value) (tight : Bool) (l : List (Tk × Nat)) : Prop where
  hB : B ≤ b
  row : w.heap[b]? = some (.cells #[.string S, .int .i64 (a : Int), v, .bool tight] 34 (0, 0))
  own : w.ownsRow B 30 4 v l.length (tkL l)
theorem own_head {w : World} {base E m n : Nat} {v : Value} {xs : List Value} {g : Nat} (h : w.ownsRow base E m v n xs) (hg : v.ownBlock = some g) : ∃ cur, w.heap[g]? = some (.cells cur E (0, 0)) := by
  rcases h.2 with ⟨rfl, _⟩ | ⟨g', cap, cur, rfl, _, hh, _⟩
  · simp [Value.ownBlock] at hg
  · simp [Value.ownBlock] at hg
    subst hg
    exact ⟨cur, hh⟩
section
variable {w w' : World} {B b a : Nat} {S : ByteArray} {v : Value} {tight : Bool} {l : List (Tk × Nat)}
theorem Scn.lt (h : Scn w B b S a v tight l) : b < w.heap.size := lt_of_block h.row
theorem Scn.ne (h : Scn w B b S a v tight l) : v.ownBlock ≠ some b := fun e => by
  obtain ⟨cur, hh⟩ := own_head h.own e
  rw [h.row] at hh
  injection hh with hh
  injection hh with h1 h2 h3
  exact absurd h2 (by decide)
theorem Scn.below (h : Scn w B b S a v tight l) (hb : Below w.heap.size w w') : Scn w' B b S a v tight l :=
  ⟨h.hB, (hb.block b h.lt).trans h.row, own_below h.own hb⟩
theorem Scn.cells (h : Scn w B b S a v tight l) : (w.cell? ⟨b, 0, none⟩ = some (.string S) ∧ w.cell? ⟨b, 1, none⟩ = some (.int .i64 (a : Int)) ∧ w.cell? ⟨b, 2, none⟩ = some v ∧ w.cell? ⟨b, 3, none⟩ = some (.bool tight)) ∧ ∀ i, w.frozen? ⟨b, i, none⟩ = false := by
  have h0 := cell_of_row _ _ 0 _ _ _ h.row
  have h1 := cell_of_row _ _ 1 _ _ _ h.row
  have h2 := cell_of_row _ _ 2 _ _ _ h.row
  have h3 := cell_of_row _ _ 3 _ _ _ h.row
  simp at h0 h1 h2 h3
  exact ⟨⟨h0, h1, h2, h3⟩, fun i => frozen_of_row _ _ i _ _ h.row⟩
theorem Scn.setAt (h : Scn w B b S a v tight l) (a2 : Nat) : Scn (w.setCell ⟨b, 1, none⟩ (.int .i64 (a2 : Int))) B b S a2 v tight l :=
  ⟨h.hB, heap_setCell_same _ _ 1 _ _ _ h.row, own_other h.own fun k hk => heap_setCell_other _ _ _ _ (fun e => h.ne (by rw [hk]; exact congrArg some e))⟩
theorem Scn.setTight (h : Scn w B b S a v tight l) (t2 : Bool) : Scn (w.setCell ⟨b, 3, none⟩ (.bool t2)) B b S a v t2 l :=
  ⟨h.hB, heap_setCell_same _ _ 3 _ _ _ h.row, own_other h.own fun k hk => heap_setCell_other _ _ _ _ (fun e => h.ne (by rw [hk]; exact congrArg some e))⟩
theorem Scn.base (h : Scn w B b S a v tight l) : B ≤ w.heap.size := Nat.le_of_lt (Nat.lt_of_le_of_lt h.hB h.lt)
end
theorem infoTok : (Tryd.prog.info? 30).map (fun i => (i.zero, i.size, i.bytes)) = some (some (.agg #[.int .i64 0, .int .i64 0, .string ⟨#[]⟩, .int .i64 0]), 4, 40) := by kernel_rfl
end Go.Proofs.YtjpbbooeihdnfaaDoor
