/- Parts in memory; what rules ask for, in memory. -/
import Derived.Test.YtpdihgmgcamgkaaRMdl
import Derived.Test.YtpdihgmgcamgkaaWrites0
import Derived.Laws.Rows
import Derived.WalkSmall
import Derived.Deep.AppendLies
set_option linter.unusedSimpArgs false
set_option maxRecDepth 20000
namespace Go.Proofs.Ytpdihgmgcamgkaa
open Go.RowKit

/-- A part as it lies in a row of parts. -/
structure PtAt (w : World) (b o : Nat) (p : Pt) : Prop where
  c0 : w.cell? ⟨b, o, none⟩ = some (.int .i64 p.k)
  c1 : w.cell? ⟨b, o + 1, none⟩ = some (.int .i64 p.n)
  c2 : w.cell? ⟨b, o + 2, none⟩ = some (.string p.s)
theorem PtAt.below {w w' : World} {b o : Nat} {p : Pt} (h : PtAt w b o p) (hb : Below w.heap.size w w') : PtAt w' b o p :=
  ⟨(hb.cell (World.block_lt_of_cell? w _ h.c0)).trans h.c0, (hb.cell (World.block_lt_of_cell? w _ h.c1)).trans h.c1, (hb.cell (World.block_lt_of_cell? w _ h.c2)).trans h.c2⟩
/-- A slice of parts. -/
def Pts (w : World) (q : Option Addr) (n : Nat) (l : List Pt) : Prop := l.length = n ∧ (0 < n → ∃ b o, q = some ⟨b, o, none⟩ ∧ ∀ i, i < n → PtAt w b (o + i * 3) (l.getD i default))
theorem Pts.len {w : World} {q : Option Addr} {n : Nat} {l : List Pt} (h : Pts w q n l) : l.length = n := h.1
theorem Pts.below {w w' : World} {q : Option Addr} {n : Nat} {l : List Pt} (h : Pts w q n l) (hb : Below w.heap.size w w') : Pts w' q n l := ⟨h.1, fun hn => by
  obtain ⟨b, o, e, hc⟩ := h.2 hn
  exact ⟨b, o, e, fun i hi => (hc i hi).below hb⟩⟩
theorem Pts.nil_ (w : World) (q : Option Addr) : Pts w q 0 [] := ⟨rfl, fun h => absurd h (Nat.lt_irrefl 0)⟩
theorem Pts.lt {w : World} {b o n : Nat} {l : List Pt} (h : Pts w (some ⟨b, o, none⟩) n l) (hn : 0 < n) : b < w.heap.size := by
  obtain ⟨_, _, e, hc⟩ := h.2 hn
  cases e
  exact World.block_lt_of_cell? w _ (hc 0 hn).c0
/-- A row of the call's own. -/
theorem Pts.own {w : World} {base E n c : Nat} {q : Option Addr} {l : List Pt} (h : w.ownsRow base E 3 (.slice q n c) n (pflat l)) : Pts w q n l := by
  have hl : l.length = n := by have := h.1; rw [pflat_len] at this; omega
  refine ⟨hl, fun hn => ?_⟩
  rcases h.2 with ⟨h0, h1⟩ | ⟨g, cap, cur, e, _⟩
  · cases h0; omega
  · cases e
    refine ⟨g, 0, rfl, fun i hi => ?_⟩
    obtain ⟨g0, g1, g2⟩ := pflat_get l i (by omega)
    have f := fun j v hv => World.ownsRow.cells h (g := g) rfl j v hv
    have e := fun j => Go.WideShapes.add_plain g 0 j
    refine ⟨?_, ?_, ?_⟩
    · have h := f _ _ g0; rw [e] at h; exact h
    · have h := f _ _ g1; rw [e] at h; exact h
    · have h := f _ _ g2; rw [e] at h; exact h
theorem own_form {w : World} {base E m n : Nat} {v : Value} {xs : List Value} (h : w.ownsRow base E m v n xs) : ∃ (q : Option Addr) (c : Nat), v = .slice q n c := by
  rcases h.2 with ⟨rfl, hx⟩ | ⟨g, cap, cur, e, _⟩
  · have := h.1
    subst hx
    exact ⟨none, 0, rfl⟩
  · exact ⟨_, _, e⟩
theorem own_other {w w' : World} {base E m n : Nat} {v : Value} {xs : List Value} (h : w.ownsRow base E m v n xs) (hb : ∀ g, v.ownBlock = some g → w'.heap[g]? = w.heap[g]?) : w'.ownsRow base E m v n xs := by
  refine ⟨h.1, ?_⟩
  rcases h.2 with h2 | ⟨g, cap, cur, rfl, hb2, hg, hr⟩
  · exact .inl h2
  · exact .inr ⟨g, cap, cur, rfl, hb2, (hb g rfl).trans hg, hr⟩
/-- A slice of numbers. -/
def Ints (w : World) (q : Option Addr) (n : Nat) (l : List Int) : Prop := l.length = n ∧ (0 < n → ∃ b o, q = some ⟨b, o, none⟩ ∧ ∀ i, i < n → w.cell? ⟨b, o + i, none⟩ = some (.int .i64 (l.getD i 0)))
theorem Ints.below {w w' : World} {q : Option Addr} {n : Nat} {l : List Int} (h : Ints w q n l) (hb : Below w.heap.size w w') : Ints w' q n l := ⟨h.1, fun hn => by
  obtain ⟨b, o, e, hc⟩ := h.2 hn
  exact ⟨b, o, e, fun i hi => (hb.cell (World.block_lt_of_cell? w _ (hc i hi))).trans (hc i hi)⟩⟩
/-- A function value that tells what a rule asks for. -/
inductive RlV (w : World) : Value → Rl → Prop
  | any : RlV w (.func (.func 53) #[] #[]) .any
  | tag : RlV w (.func (.func 59) #[] #[]) .tag
  | ref (B K : Nat) (h : w.cell? ⟨B, 0, none⟩ = some (.slice (some ⟨K, 0, none⟩) 1 1)) (h0 : w.cell? ⟨K, 0, none⟩ = some (.int .i64 8)) : RlV w (.func (.func 63) #[] #[.pointer (some ⟨B, 0, none⟩)]) .ref
  | refNil (B K : Nat) (h : w.cell? ⟨B, 0, none⟩ = some (.slice (some ⟨K, 0, none⟩) 2 2)) (h0 : w.cell? ⟨K, 0, none⟩ = some (.int .i64 8)) (h1 : w.cell? ⟨K, 1, none⟩ = some (.int .i64 0)) : RlV w (.func (.func 63) #[] #[.pointer (some ⟨B, 0, none⟩)]) .refNil
theorem RlV.below {w w' : World} {v : Value} {r : Rl} (h : RlV w v r) (hb : Below w.heap.size w w') : RlV w' v r := by
  cases h with
  | any => exact .any
  | tag => exact .tag
  | ref B K h h0 => exact .ref B K ((hb.cell (World.block_lt_of_cell? w _ h)).trans h) ((hb.cell (World.block_lt_of_cell? w _ h0)).trans h0)
  | refNil B K h h0 h1 => exact .refNil B K ((hb.cell (World.block_lt_of_cell? w _ h)).trans h) ((hb.cell (World.block_lt_of_cell? w _ h0)).trans h0) ((hb.cell (World.block_lt_of_cell? w _ h1)).trans h1)
/-- A slice of rules. -/
def Rls (w : World) (q : Option Addr) (n : Nat) (l : List Rl) : Prop := l.length = n ∧ (0 < n → ∃ b o, q = some ⟨b, o, none⟩ ∧ ∀ i, i < n → ∃ v, w.cell? ⟨b, o + i, none⟩ = some v ∧ RlV w v (l.getD i .any))
theorem Rls.below {w w' : World} {q : Option Addr} {n : Nat} {l : List Rl} (h : Rls w q n l) (hb : Below w.heap.size w w') : Rls w' q n l := ⟨h.1, fun hn => by
  obtain ⟨b, o, e, hc⟩ := h.2 hn
  refine ⟨b, o, e, fun i hi => ?_⟩
  obtain ⟨v, h1, h2⟩ := hc i hi
  exact ⟨v, (hb.cell (World.block_lt_of_cell? w _ h1)).trans h1, h2.below hb⟩⟩
/-- What a kind asks for, as a value. -/
def NdV (w : World) (v : Value) (n : Nd) : Prop := ∃ q k c, v = .agg #[.int .i64 n.least, .int .i64 n.most, .slice q k c, .int .i64 n.bytes, .int .u8 (n.high : Int)] ∧ Rls w q k n.first
end Go.Proofs.Ytpdihgmgcamgkaa
