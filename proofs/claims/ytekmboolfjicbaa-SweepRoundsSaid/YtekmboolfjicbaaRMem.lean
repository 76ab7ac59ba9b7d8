/- The document's row of places, in memory. -/
import Derived.Test.YtekmboolfjicbaaHSetB
set_option maxRecDepth 20000
set_option linter.unusedSimpArgs false
namespace Go.Proofs.Ytekmboolfjicbaa
open Go.RowKit

/-- What a place has: nothing, or an object. -/
def chOf (c : Option Cl) : Bool := (c.map Cl.ch).getD false
def obOf (c : Option Cl) : Ob := (c.map Cl.o).getD ⟨0, [], []⟩
def cellR (c : Option Cl) (W : Value × Value) : List Value := [.bool c.isSome, .bool (chOf c), .int .i64 (obOf c).k, W.1, W.2, .int .i64 0]
def rowR (L : Pls) (W : Nat → Value × Value) : Nat → List Value
  | 0 => []
  | n + 1 => rowR L W n ++ cellR (clAt L n) (W n)
theorem rowR_len (L : Pls) (W : Nat → Value × Value) (n : Nat) : (rowR L W n).length = n * 6 := by
  induction n with
  | zero => rfl
  | succ n ih => unfold rowR; rw [List.length_append, ih]; simp [cellR]; omega
theorem rowR_get (L : Pls) (W : Nat → Value × Value) (n i j : Nat) (h : i < n) (hj : j < 6) : (rowR L W n)[i * 6 + j]? = (cellR (clAt L i) (W i))[j]? := by
  induction n with
  | zero => omega
  | succ n ih =>
    unfold rowR
    rcases Nat.lt_or_ge i n with h1 | h1
    · rw [List.getElem?_append_left (by rw [rowR_len]; omega)]
      exact ih h1
    · obtain rfl : i = n := by omega
      rw [List.getElem?_append_right (by rw [rowR_len]; omega), rowR_len, Nat.add_sub_cancel_left]
theorem rowR_congr {L M : Pls} {W V : Nat → Value × Value} {n : Nat} (h : ∀ i, i < n → clAt L i = clAt M i ∧ W i = V i) : rowR L W n = rowR M V n := by
  induction n with
  | zero => rfl
  | succ n ih =>
    unfold rowR
    rw [ih (fun i hi => h i (by omega)), (h n (by omega)).1, (h n (by omega)).2]
/-- A slice's block is none of these. -/
def Off (F : Nat → Prop) (q : Option Addr) (n : Nat) : Prop := 0 < n → ∀ b o, q = some ⟨b, o, none⟩ → ¬ F b
/-- An object's values and bytes, as they lie. -/
structure ObR (w : World) (F : Nat → Prop) (W : Value × Value) (o : Ob) : Prop where
  vs : ∃ q c, W.1 = .slice q o.vs.length c ∧ Vls w q o.vs.length o.vs ∧ Off F q o.vs.length ∧ (q = none → c = 0)
  bs : ∃ q c, W.2 = .slice q o.bs.length c ∧ Bys w q o.bs.length o.bs ∧ Off F q o.bs.length ∧ (q = none → c = 0)
theorem Vls.keepO {w w' : World} {q : Option Addr} {n : Nat} {l : List (Int × Int)} (h : Vls w q n l) (hb : 0 < n → ∀ b o, q = some ⟨b, o, none⟩ → b < w.heap.size → w'.heap[b]? = w.heap[b]?) : Vls w' q n l := by
  rcases Nat.eq_zero_or_pos n with h0 | h0
  · exact ⟨h.1, fun hn => absurd hn (by omega)⟩
  · exact h.keep (hb h0)
theorem Bys.keepO {w w' : World} {q : Option Addr} {n : Nat} {l : List Nat} (h : Bys w q n l) (hb : 0 < n → ∀ b o, q = some ⟨b, o, none⟩ → b < w.heap.size → w'.heap[b]? = w.heap[b]?) : Bys w' q n l :=
  ⟨h.len, h.dig, fun hn => by
    obtain ⟨b, o, e, hc⟩ := h.inn hn
    have hlt := World.block_lt_of_cell? w _ (hc 0 hn)
    exact ⟨b, o, e, fun i hi => (World.cell?_of_block (hb hn b o e hlt)).trans (hc i hi)⟩⟩
theorem ObR.keep {w w' : World} {F F' : Nat → Prop} {W : Value × Value} {o : Ob} (h : ObR w F W o) (hb : ∀ b, b < w.heap.size → ¬ F b → w'.heap[b]? = w.heap[b]? ∧ ¬ F' b) : ObR w' F' W o := by
  obtain ⟨q, c, e1, h1, o1, m1⟩ := h.vs
  obtain ⟨p, d, e2, h2, o2, m2⟩ := h.bs
  refine ⟨⟨q, c, e1, h1.keepO fun hn b o e hl => (hb b hl (o1 hn b o e)).1, fun hn b o e => ?_, m1⟩, ⟨p, d, e2, h2.keepO fun hn b o e hl => (hb b hl (o2 hn b o e)).1, fun hn b o e => ?_, m2⟩⟩
  · obtain ⟨b2, o2', e2, hc⟩ := h1.2 hn
    rw [e] at e2; cases e2
    exact (hb b (World.block_lt_of_cell? w _ (hc 0 hn).1) (o1 hn b o e)).2
  · exact (hb b (h2.lt hn b o e) (o2 hn b o e)).2
/-- The document's row; F: the blocks that aren't its. -/
structure RHp (w : World) (F : Nat → Prop) (vl : Value) (W : Nat → Value × Value) (L : Pls) : Prop where
  row : w.ownsRow 0 109 6 vl L.length (rowR L W L.length)
  off : ∀ k, vl.ownBlock = some k → ¬ F k
  at_ : ∀ i c, clAt L i = some c → ObR w F (W i) c.o
  none_ : ∀ i, clAt L i = none → W i = (.slice none 0 0, .slice none 0 0)
section
variable {w w' : World} {F F' : Nat → Prop} {vl : Value} {W : Nat → Value × Value} {L : Pls}
theorem RHp.keep (h : RHp w F vl W L) (hb : ∀ b, b < w.heap.size → ¬ F b → w'.heap[b]? = w.heap[b]? ∧ ¬ F' b) : RHp w' F' vl W L :=
  ⟨own_other h.row fun k e => (hb k (own_lt h.row e) (h.off k e)).1, fun k e => (hb k (own_lt h.row e) (h.off k e)).2, fun i c hc => (h.at_ i c hc).keep hb, h.none_⟩
theorem RHp.below (h : RHp w F vl W L) (hb : Below w.heap.size w w') : RHp w' F vl W L := h.keep fun b hl hf => ⟨hb.block b hl, hf⟩
theorem RHp.chp (h : RHp w F vl W L) (hc : Chp F F' w w') : RHp w' F' vl W L := h.keep fun b hl hf => ⟨hc.block b hl hf, hc.out hl hf⟩
theorem RHp.form (h : RHp w F vl W L) : ∃ q c, vl = .slice q L.length c := own_form h.row
/-- The cells of a place. -/
theorem RHp.cells (h : RHp w F vl W L) {i : Nat} (hi : i < L.length) : ∃ b c, vl = .slice (some ⟨b, 0, none⟩) L.length c ∧ L.length ≤ c ∧
    w.cell? ⟨b, i * 6, none⟩ = some (.bool (clAt L i).isSome) ∧ w.cell? ⟨b, i * 6 + 1, none⟩ = some (.bool (chOf (clAt L i))) ∧ w.cell? ⟨b, i * 6 + 2, none⟩ = some (.int .i64 (obOf (clAt L i)).k) ∧
    w.cell? ⟨b, i * 6 + 3, none⟩ = some (W i).1 ∧ w.cell? ⟨b, i * 6 + 4, none⟩ = some (W i).2 ∧ w.cell? ⟨b, i * 6 + 5, none⟩ = some (.int .i64 0) := by
  obtain ⟨b, c, e⟩ := own_some h.row (by omega)
  subst e
  have hr := h.row
  have f := fun j hj => (hr.cellAt (i * 6 + j) (by omega)).trans (rowR_get L W L.length i j hi hj)
  exact ⟨b, c, rfl, own_cap hr, f 0 (by omega), f 1 (by omega), f 2 (by omega), f 3 (by omega), f 4 (by omega), f 5 (by omega)⟩
/-- The object of a place, or none's. -/
theorem RHp.ob (h : RHp w F vl W L) (i : Nat) : ObR w F (W i) (obOf (clAt L i)) := by
  cases hc : clAt L i with
  | some c => exact h.at_ i c hc
  | none =>
    rw [h.none_ i hc]
    exact ⟨⟨none, 0, rfl, ⟨rfl, fun hn => absurd hn (Nat.lt_irrefl 0)⟩, fun hn => absurd hn (Nat.lt_irrefl 0), fun _ => rfl⟩, ⟨none, 0, rfl, Bys.zero _ _, fun hn => absurd hn (Nat.lt_irrefl 0), fun _ => rfl⟩⟩
theorem RHp.empty (w : World) (F : Nat → Prop) : RHp w F (.slice none 0 0) (fun _ => (.slice none 0 0, .slice none 0 0)) [] :=
  ⟨World.ownsRow_nil _ _ _ _, fun k e => (by simp [Value.ownBlock] at e), fun i c hc => (by rw [clAt_ge (Nat.zero_le i)] at hc; cases hc), fun _ _ => rfl⟩
end
end Go.Proofs.Ytekmboolfjicbaa
