/- A call that changes one block alone. -/
import Derived.Test.YtekmboolfjicbaaHOwn
namespace Go.Proofs.Ytekmboolfjicbaa
open Go.RowKit

structure Only (g : Nat) (w w' : World) : Prop where
  os : w'.os = w.os
  tape : w'.tape = w.tape
  output : w'.output = w.output
  size : w.heap.size ≤ w'.heap.size
  block : ∀ k, k < w.heap.size → k ≠ g → w'.heap[k]? = w.heap[k]?
theorem Only.refl (g : Nat) (w : World) : Only g w w := ⟨rfl, rfl, rfl, Nat.le_refl _, fun _ _ _ => rfl⟩
theorem Only.trans {g : Nat} {a b c : World} (h : Only g a b) (k : Only g b c) : Only g a c :=
  ⟨k.os.trans h.os, k.tape.trans h.tape, k.output.trans h.output, Nat.le_trans h.size k.size, fun i hi hg => (k.block i (Nat.lt_of_lt_of_le hi h.size) hg).trans (h.block i hi hg)⟩
theorem Only.of_below {g : Nat} {w w' : World} (h : Below w.heap.size w w') : Only g w w' := ⟨h.os, h.tape, h.output, h.size, fun k hk _ => h.block k hk⟩
theorem Only.below {g B : Nat} {a w w' : World} (h : Only g w w') (hb : Below B a w) (hB : B ≤ w.heap.size) (hg : B ≤ g) : Below B a w' :=
  hb.trans ⟨h.os, h.tape, h.output, h.size, fun k hk => h.block k (by omega) (by omega)⟩
theorem Only.setCell (g i : Nat) (v : Value) (w : World) : Only g w (w.setCell ⟨g, i, none⟩ v) :=
  have h := (Below.refl 0 w).setCell (p := ⟨g, i, none⟩) (Nat.zero_le _) v
  ⟨h.os, h.tape, h.output, h.size, fun k _ hg => Below.heap_setCell w _ v k (fun e => hg (by rw [e]))⟩
theorem Only.drew {g : Nat} {w w' : World} (h : Only g w w') : Only g w w'.drew := ⟨h.os, h.tape, h.output, h.size, h.block⟩
/-- Bytes that lie in a row of the call's own. -/
def Row5 (w : World) (g N : Nat) (us : List Nat) : Prop := w.ownsRow 0 5 1 (.slice (some ⟨g, 0, none⟩) N N) N (u8s us)
theorem Row5.len {w : World} {g N : Nat} {us : List Nat} (h : Row5 w g N us) : us.length = N := by
  have := h.1; rw [u8s_len] at this; omega
theorem Row5.head {w : World} {g N : Nat} {us : List Nat} (h : Row5 w g N us) : ∃ cur, w.heap[g]? = some (.cells cur 5 (0, 0)) := by
  rcases h.2 with ⟨h, _⟩ | ⟨g', cap, cur, h, _, hh, _⟩
  · cases h
  · cases h; exact ⟨cur, hh⟩
theorem Row5.lt {w : World} {g N : Nat} {us : List Nat} (h : Row5 w g N us) : g < w.heap.size := by
  obtain ⟨cur, h⟩ := h.head
  exact lt_of_block h
theorem Row5.same {w w' : World} {g N : Nat} {us : List Nat} (h : Row5 w g N us) (hb : w'.heap[g]? = w.heap[g]?) : Row5 w' g N us :=
  own_other h fun k e => by simp [Value.ownBlock] at e; subst e; exact hb
theorem Row5.below {w w' : World} {g N : Nat} {us : List Nat} (h : Row5 w g N us) (hb : Below w.heap.size w w') : Row5 w' g N us := own_below h hb
theorem Row5.cell {w : World} {g N : Nat} {us : List Nat} (h : Row5 w g N us) (i : Nat) (hi : i < N) : w.cell? ⟨g, i, none⟩ = some (.int .u8 ((us.getD i 0 : Nat) : Int)) :=
  (World.ownsRow.cellAt h i (by omega)).trans (u8s_get us i (by rw [h.len]; exact hi))
theorem Row5.fz {w : World} {g N : Nat} {us : List Nat} (h : Row5 w g N us) (i : Nat) : w.frozen? ⟨g, i, none⟩ = false := World.ownsRow.frozenAt h i
theorem Row5.put {w : World} {g N : Nat} {us : List Nat} (h : Row5 w g N us) (i x : Nat) : Row5 (w.setCell ⟨g, i, none⟩ (.int .u8 (x : Int))) g N (us.set i x) := by
  have h2 := (World.ownsRow.stored h i (.int .u8 (x : Int))).1
  have e : u8s (us.set i x) = (u8s us).set i (.int .u8 (x : Int)) := by unfold u8s; rw [List.map_set]
  unfold Row5
  rw [e]; exact h2
theorem Row5.bys {w : World} {g N : Nat} {us : List Nat} (h : Row5 w g N us) (hd : ∀ x ∈ us, x < 256) : Bys w (some ⟨g, 0, none⟩) N us := Bys.own h hd
theorem alloc_below (u : World) (o : Obj) : Below u.heap.size u (u.alloc o) := (Below.refl _ _).alloc (Nat.le_refl _) _
theorem Below.more {B : Nat} {w a b : World} (h : Below B w a) (k : Below a.heap.size a b) (hB : B ≤ a.heap.size) : Below B w b := h.trans (Below.mono k hB)
theorem Only.then {g B : Nat} {a b c : World} (h : Only g a b) (hb : Below B b c) (hB : a.heap.size ≤ B) : Only g a c :=
  ⟨hb.os.trans h.os, hb.tape.trans h.tape, hb.output.trans h.output, Nat.le_trans h.size hb.size, fun k hk hg => (hb.block k (by omega)).trans (h.block k hk hg)⟩
theorem Bys.only {w w' : World} {g n : Nat} {p : Option Addr} {bs : List Nat} (h : Bys w p n bs) (ho : Only g w w') (hp : ∀ b o, p = some ⟨b, o, none⟩ → b ≠ g) : Bys w' p n bs :=
  ⟨h.len, h.dig, fun hn => by
    obtain ⟨b, o, e, hc⟩ := h.inn hn
    have hlt := World.block_lt_of_cell? w _ (hc 0 hn)
    exact ⟨b, o, e, fun i hi => (World.cell?_of_block (ho.block b hlt (hp b o e))).trans (hc i hi)⟩⟩
end Go.Proofs.Ytekmboolfjicbaa
