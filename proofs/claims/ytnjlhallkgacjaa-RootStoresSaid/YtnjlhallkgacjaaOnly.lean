/- A call that changes one block alone. -/
import Derived.Test.YtnjlhallkgacjaaSmall5
import Derived.Test.YtnjlhallkgacjaaSeal
namespace Go.Proofs.Ytnjlhallkgacjaa
open Go.RowKit

structure Only (g : Nat) (w w' : World) : Prop where
  os : w'.os = w.os
  tape : w'.tape = w.tape
  output : w'.output = w.output
  size : w.heap.size ≤ w'.heap.size
  block : ∀ k, k < w.heap.size → k ≠ g → w'.heap[k]? = w.heap[k]?
theorem Only.refl (g : Nat) (w : World) : Only g w w := ⟨rfl, rfl, rfl, Nat.le_refl _, fun _ _ _ => rfl⟩
theorem Only.trans {g : Nat} {a b c : World} (h : Only g a b) (k : Only g b c) : Only g a c :=
  ⟨k.os.trans h.os, k.tape.trans h.tape, k.output.trans h.output, Nat.le_trans h.size k.size, fun i hi hg => (k.block i (Nat.lt_of_lt_of_le hi h.size) hg).trans (h.block i hi hg)⟩
theorem Only.of_below {g : Nat} {w w' : World} (h : Below w.heap.size w w') : Only g w w' := ⟨h.os, h.tape, h.output, h.size, fun k hk _ => h.block k hk⟩
theorem Only.below {g B : Nat} {a w w' : World} (h : Only g w w') (hb : Below B a w) (hB : B ≤ w.heap.size) (hg : B ≤ g) : Below B a w' :=
  hb.trans ⟨h.os, h.tape, h.output, h.size, fun k hk => h.block k (by omega) (by omega)⟩
theorem Only.setCell (g i : Nat) (v : Value) (w : World) : Only g w (w.setCell ⟨g, i, none⟩ v) :=
  have h := (Below.refl 0 w).setCell (p := ⟨g, i, none⟩) (Nat.zero_le _) v
  ⟨h.os, h.tape, h.output, h.size, fun k _ hg => Below.heap_setCell w _ v k (fun e => hg (by rw [e]))⟩
theorem Only.drew {g : Nat} {w w' : World} (h : Only g w w') : Only g w w'.drew := ⟨h.os, h.tape, h.output, h.size, h.block⟩
theorem RtAt.only {w w' : World} {b t g : Nat} {r : Rt} (h : RtAt w b t r) (ho : Only g w w') (hg : b ≠ g) : RtAt w' b t r := (ho.block b h.lt hg).trans h
/-- Bytes that lie in a row of the call's own. -/
def Row5 (w : World) (g N : Nat) (us : List Nat) : Prop := w.ownsRow 0 5 1 (.slice (some ⟨g, 0, none⟩) N N) N (u8s us)
theorem Row5.len {w : World} {g N : Nat} {us : List Nat} (h : Row5 w g N us) : us.length = N := by
  have := h.1; rw [u8s_len] at this; omega
theorem Row5.head {w : World} {g N : Nat} {us : List Nat} (h : Row5 w g N us) : ∃ cur, w.heap[g]? = some (.cells cur 5 (0, 0)) := by
  rcases h.2 with ⟨h, _⟩ | ⟨g', cap, cur, h, _, hh, _⟩
  · cases h
  · cases h; exact ⟨cur, hh⟩
theorem Row5.lt {w : World} {g N : Nat} {us : List Nat} (h : Row5 w g N us) : g < w.heap.size := by
  obtain ⟨cur, h⟩ := h.head
  rcases Nat.lt_or_ge g w.heap.size with h1 | h1
  · exact h1
  · rw [Array.getElem?_eq_none h1] at h; cases h
theorem Row5.below {w w' : World} {g N : Nat} {us : List Nat} (h : Row5 w g N us) (hb : Below w.heap.size w w') : Row5 w' g N us := own_below h hb
theorem Row5.cell {w : World} {g N : Nat} {us : List Nat} (h : Row5 w g N us) (i : Nat) (hi : i < N) : w.cell? ⟨g, i, none⟩ = some (.int .u8 ((us.getD i 0 : Nat) : Int)) :=
  (World.ownsRow.cellAt h i (by omega)).trans (u8s_get us i (by rw [h.len]; exact hi))
theorem Row5.fz {w : World} {g N : Nat} {us : List Nat} (h : Row5 w g N us) (i : Nat) : w.frozen? ⟨g, i, none⟩ = false := World.ownsRow.frozenAt h i
theorem Row5.put {w : World} {g N : Nat} {us : List Nat} (h : Row5 w g N us) (i x : Nat) : Row5 (w.setCell ⟨g, i, none⟩ (.int .u8 (x : Int))) g N (us.set i x) := by
  have h2 := (World.ownsRow.stored h i (.int .u8 (x : Int))).1
  have e : u8s (us.set i x) = (u8s us).set i (.int .u8 (x : Int)) := by unfold u8s; rw [List.map_set]
  unfold Row5
  rw [e]; exact h2
theorem Row5.bys {w : World} {g N : Nat} {us : List Nat} (h : Row5 w g N us) (hd : ∀ x ∈ us, x < 256) : Bys w (some ⟨g, 0, none⟩) N us := Bys.own h hd
end Go.Proofs.Ytnjlhallkgacjaa
