/- The memory of objects, in memory: its box, its row of places, each object's cell, values and bytes. -/
import Derived.Test.YtekmboolfjicbaaHNum
set_option maxRecDepth 20000
set_option linter.unusedSimpArgs false
namespace Go.Proofs.Ytekmboolfjicbaa
open Go.RowKit

/-- Values, cell by cell. -/
def flatV : List (Int × Int) → List Value
  | [] => []
  | x :: l => .int .i64 x.1 :: .int .i64 x.2 :: flatV l
theorem flatV_len (l : List (Int × Int)) : (flatV l).length = l.length * 2 := by
  induction l with
  | nil => rfl
  | cons x l ih => simp only [flatV, List.length_cons, ih]; omega
theorem flatV_get (l : List (Int × Int)) (k : Nat) (h : k < l.length) : (flatV l)[k * 2]? = some (.int .i64 (l.getD k (0, 0)).1) ∧ (flatV l)[k * 2 + 1]? = some (.int .i64 (l.getD k (0, 0)).2) := by
  induction l generalizing k with
  | nil => simp at h
  | cons x l ih =>
    cases k with
    | zero => exact ⟨rfl, rfl⟩
    | succ k =>
      have h2 := ih k (by simpa using h)
      rw [show (k + 1) * 2 = k * 2 + 2 by omega]
      exact h2
theorem flatV_set (l : List (Int × Int)) (k : Nat) (x : Int × Int) (h : k < l.length) : ((flatV l).set (k * 2) (.int .i64 x.1)).set (k * 2 + 1) (.int .i64 x.2) = flatV (l.set k x) := by
  induction l generalizing k with
  | nil => simp at h
  | cons y l ih =>
    cases k with
    | zero => rfl
    | succ k =>
      rw [show (k + 1) * 2 = k * 2 + 2 by omega]
      simp only [flatV, List.set_cons_succ]
      rw [ih k (by simpa using h)]
theorem flatV_append (a b : List (Int × Int)) : flatV (a ++ b) = flatV a ++ flatV b := by
  induction a with
  | nil => rfl
  | cons x a ih => simp only [flatV, List.cons_append, ih]
theorem flatV_one (l : List (Int × Int)) : ∀ v ∈ flatV l, v.oneCell' = true := by
  induction l with
  | nil => intro v hv; cases hv
  | cons x l ih =>
    intro v hv
    simp only [flatV, List.mem_cons] at hv
    rcases hv with rfl | rfl | hv
    · rfl
    · rfl
    · exact ih v hv
/-- A value, as it is handed on. -/
abbrev valV (x : Int × Int) : Value := .agg #[.int .i64 x.1, .int .i64 x.2]
/-- A slice that reads as these values. -/
def Vls (w : World) (q : Option Addr) (n : Nat) (l : List (Int × Int)) : Prop := l.length = n ∧ (0 < n → ∃ b o, q = some ⟨b, o, none⟩ ∧ ∀ i, i < n → w.cell? ⟨b, o + i * 2, none⟩ = some (.int .i64 (l.getD i (0, 0)).1) ∧ w.cell? ⟨b, o + i * 2 + 1, none⟩ = some (.int .i64 (l.getD i (0, 0)).2))
theorem Vls.len {w : World} {q : Option Addr} {n : Nat} {l : List (Int × Int)} (h : Vls w q n l) : l.length = n := h.1
theorem Vls.keep {w w' : World} {q : Option Addr} {n : Nat} {l : List (Int × Int)} (h : Vls w q n l) (hb : ∀ b o, q = some ⟨b, o, none⟩ → b < w.heap.size → w'.heap[b]? = w.heap[b]?) : Vls w' q n l := ⟨h.1, fun hn => by
  obtain ⟨b, o, e, hc⟩ := h.2 hn
  have hlt := World.block_lt_of_cell? w _ (hc 0 hn).1
  have hh := hb b o e hlt
  exact ⟨b, o, e, fun i hi => ⟨(World.cell?_of_block hh).trans (hc i hi).1, (World.cell?_of_block hh).trans (hc i hi).2⟩⟩⟩
theorem Vls.below {w w' : World} {q : Option Addr} {n : Nat} {l : List (Int × Int)} (h : Vls w q n l) (hb : Below w.heap.size w w') : Vls w' q n l := h.keep fun b _ _ hl => hb.block b hl
theorem Vls.own {w : World} {base n c : Nat} {q : Option Addr} {l : List (Int × Int)} (h : w.ownsRow base 36 2 (.slice q n c) n (flatV l)) : Vls w q n l := by
  have hl : l.length = n := by have := h.1; rw [flatV_len] at this; omega
  refine ⟨hl, fun hn => ?_⟩
  obtain ⟨g, c', e⟩ := own_some h hn
  cases e
  refine ⟨g, 0, rfl, fun i hi => ?_⟩
  obtain ⟨g0, g1⟩ := flatV_get l i (by omega)
  have a0 := h.cellAt (i * 2) (by omega)
  have a1 := h.cellAt (i * 2 + 1) (by omega)
  rw [Nat.zero_add]
  exact ⟨a0.trans g0, a1.trans g1⟩
theorem Vls.cells {w : World} {q : Option Addr} {n : Nat} {l : List (Int × Int)} (h : Vls w q n l) (hn : 0 < n) : ∃ ad, q = some ad ∧ ∀ j v, (flatV l)[j]? = some v → w.cell? (ad.add j) = some v := by
  obtain ⟨b, o, e, hc⟩ := h.2 hn
  refine ⟨_, e, fun j v hv => ?_⟩
  have hj : j < n * 2 := by
    rcases Nat.lt_or_ge j (n * 2) with h1 | h1
    · exact h1
    · rw [List.getElem?_eq_none (by rw [flatV_len, h.1]; exact h1)] at hv; cases hv
  have h2 := hc (j / 2) (by omega)
  obtain ⟨g0, g1⟩ := flatV_get l (j / 2) (by rw [h.1]; omega)
  rw [Go.WideShapes.add_plain]
  rcases Nat.mod_two_eq_zero_or_one j with h3 | h3
  · rw [show j / 2 * 2 = j by omega] at g0
    rw [hv] at g0
    rw [show o + j = o + j / 2 * 2 by omega]
    rw [h2.1, ← Option.some.inj g0]
  · rw [show j / 2 * 2 + 1 = j by omega] at g1
    rw [hv] at g1
    rw [show o + j = o + j / 2 * 2 + 1 by omega]
    rw [h2.2, ← Option.some.inj g1]
/-- What a call may change: blocks of a kind. -/
structure Chp (F F' : Nat → Prop) (w w' : World) : Prop where
  os : w'.os = w.os
  tape : w'.tape = w.tape
  output : w'.output = w.output
  size : w.heap.size ≤ w'.heap.size
  block : ∀ k, k < w.heap.size → ¬ F k → w'.heap[k]? = w.heap[k]?
  fresh : ∀ k, F' k → F k ∨ w.heap.size ≤ k
theorem Chp.refl (F : Nat → Prop) (w : World) : Chp F F w w := ⟨rfl, rfl, rfl, Nat.le_refl _, fun _ _ _ => rfl, fun _ h => .inl h⟩
theorem Chp.trans {F F' F2 : Nat → Prop} {a b c : World} (h : Chp F F' a b) (k : Chp F' F2 b c) : Chp F F2 a c :=
  ⟨k.os.trans h.os, k.tape.trans h.tape, k.output.trans h.output, Nat.le_trans h.size k.size,
   fun i hi hF => (k.block i (Nat.lt_of_lt_of_le hi h.size) (fun e => (h.fresh i e).elim hF (fun h2 => by omega))).trans (h.block i hi hF),
   fun i hi => (k.fresh i hi).elim (fun e => h.fresh i e) (fun e => .inr (Nat.le_trans h.size e))⟩
theorem Chp.of_below {F : Nat → Prop} {w w' : World} (h : Below w.heap.size w w') : Chp F F w w' := ⟨h.os, h.tape, h.output, h.size, fun k hk _ => h.block k hk, fun _ h => .inl h⟩
theorem Chp.below {F F' : Nat → Prop} {B : Nat} {a w w' : World} (h : Chp F F' w w') (hb : Below B a w) (hB : B ≤ w.heap.size) (hF : ∀ k, F k → B ≤ k) : Below B a w' :=
  hb.trans ⟨h.os, h.tape, h.output, h.size, fun k hk => h.block k (by omega) (fun e => by have := hF k e; omega)⟩
theorem Chp.high {F F' : Nat → Prop} {B : Nat} {w w' : World} (h : Chp F F' w w') (hB : B ≤ w.heap.size) (hF : ∀ k, F k → B ≤ k) : ∀ k, F' k → B ≤ k := fun k hk => (h.fresh k hk).elim (hF k) (fun e => by omega)
theorem Chp.out {F F' : Nat → Prop} {w w' : World} (h : Chp F F' w w') {b : Nat} (hb : b < w.heap.size) (hF : ¬ F b) : ¬ F' b := fun e => (h.fresh b e).elim hF (fun e => by omega)
theorem Chp.drew {F F' : Nat → Prop} {w w' : World} (h : Chp F F' w w') : Chp F F' w w'.drew := ⟨h.os, h.tape, h.output, h.size, h.block, h.fresh⟩
theorem Chp.of_drew {F F' : Nat → Prop} {w w' : World} (h : Chp F F' w.drew w') : Chp F F' w w' := ⟨h.os, h.tape, h.output, h.size, h.block, h.fresh⟩
theorem Chp.only {F : Nat → Prop} {g : Nat} {w w' : World} (h : Only g w w') (hg : F g) : Chp F F w w' :=
  ⟨h.os, h.tape, h.output, h.size, fun k hk hF => h.block k hk (fun e => hF (by rw [e]; exact hg)), fun _ h => .inl h⟩
theorem Chp.setCell {F : Nat → Prop} {g i : Nat} (hg : F g) (v : Value) (w : World) : Chp F F w (w.setCell ⟨g, i, none⟩ v) := Chp.only (Only.setCell g i v w) hg
theorem Chp.congr {F F' G G' : Nat → Prop} {w w' : World} (h : Chp F F' w w') (h1 : ∀ k, F k → G k) (h2 : ∀ k, G' k → F' k ∨ G k ∨ w.heap.size ≤ k) : Chp G G' w w' :=
  ⟨h.os, h.tape, h.output, h.size, fun k hk hG => h.block k hk (fun e => hG (h1 k e)), fun k hk => (h2 k hk).elim (fun e => (h.fresh k e).elim (fun e => .inl (h1 k e)) .inr) id⟩
/-- Where an object lies: its cell's block, its values, its bytes. -/
abbrev Pos := Nat × Value × Value
def blkP (x : Pos) (k : Nat) : Prop := k = x.1 ∨ x.2.1.ownBlock = some k ∨ x.2.2.ownBlock = some k
/-- An object in memory. -/
structure CelAt (w : World) (x : Pos) (c : Cl) : Prop where
  hd : w.heap[x.1]? = some (.cells #[.int .i64 c.o.k, x.2.1, x.2.2, .int .i64 (c.num : Int), .bool c.away, .bool c.ch] 101 (0, 0))
  vs : w.ownsRow 0 36 2 x.2.1 c.o.vs.length (flatV c.o.vs)
  bs : w.ownsRow 0 5 1 x.2.2 c.o.bs.length (u8s c.o.bs)
  dig : ∀ y ∈ c.o.bs, y < 256
section
variable {w w' : World} {x : Pos} {c : Cl}
theorem CelAt.lt (h : CelAt w x c) : ∀ k, blkP x k → k < w.heap.size := by
  rintro k (rfl | e | e)
  · exact lt_of_block h.hd
  · exact own_lt h.vs e
  · exact own_lt h.bs e
theorem CelAt.keep (h : CelAt w x c) (hb : ∀ k, blkP x k → w'.heap[k]? = w.heap[k]?) : CelAt w' x c :=
  ⟨(hb _ (.inl rfl)).trans h.hd, own_other h.vs fun k e => hb k (.inr (.inl e)), own_other h.bs fun k e => hb k (.inr (.inr e)), h.dig⟩
theorem CelAt.below (h : CelAt w x c) (hb : Below w.heap.size w w') : CelAt w' x c := h.keep fun k hk => hb.block k (h.lt k hk)
theorem CelAt.c0 (h : CelAt w x c) : w.cell? ⟨x.1, 0, none⟩ = some (.int .i64 c.o.k) := by rw [cell_of_row w _ 0 _ _ _ h.hd]; rfl
theorem CelAt.c1 (h : CelAt w x c) : w.cell? ⟨x.1, 1, none⟩ = some x.2.1 := by rw [cell_of_row w _ 1 _ _ _ h.hd]; rfl
theorem CelAt.c2 (h : CelAt w x c) : w.cell? ⟨x.1, 2, none⟩ = some x.2.2 := by rw [cell_of_row w _ 2 _ _ _ h.hd]; rfl
theorem CelAt.c3 (h : CelAt w x c) : w.cell? ⟨x.1, 3, none⟩ = some (.int .i64 (c.num : Int)) := by rw [cell_of_row w _ 3 _ _ _ h.hd]; rfl
theorem CelAt.c4 (h : CelAt w x c) : w.cell? ⟨x.1, 4, none⟩ = some (.bool c.away) := by rw [cell_of_row w _ 4 _ _ _ h.hd]; rfl
theorem CelAt.c5 (h : CelAt w x c) : w.cell? ⟨x.1, 5, none⟩ = some (.bool c.ch) := by rw [cell_of_row w _ 5 _ _ _ h.hd]; rfl
theorem CelAt.fz (h : CelAt w x c) (j : Nat) : w.frozen? ⟨x.1, j, none⟩ = false := frozen_of_row w _ j _ _ h.hd
theorem CelAt.vform (h : CelAt w x c) : ∃ q d, x.2.1 = .slice q c.o.vs.length d := own_form h.vs
theorem CelAt.bform (h : CelAt w x c) : ∃ q d, x.2.2 = .slice q c.o.bs.length d := own_form h.bs
theorem CelAt.ne (h : CelAt w x c) : x.2.1.ownBlock ≠ some x.1 ∧ x.2.2.ownBlock ≠ some x.1 ∧ ∀ k, x.2.1.ownBlock = some k → x.2.2.ownBlock ≠ some k := by
  refine ⟨fun e => ?_, fun e => ?_, fun k e1 e2 => ?_⟩
  · obtain ⟨cur, hc⟩ := own_head h.vs e; exact ne_of_ty h.hd hc (by decide) rfl
  · obtain ⟨cur, hc⟩ := own_head h.bs e; exact ne_of_ty h.hd hc (by decide) rfl
  · obtain ⟨cur, hc⟩ := own_head h.vs e1; obtain ⟨cur2, hc2⟩ := own_head h.bs e2; exact ne_of_ty hc hc2 (by decide) rfl
/-- A field that is set. -/
theorem CelAt.set (h : CelAt w x c) {j : Nat} {v : Value} {c' : Cl} (ho : c'.o = c.o) (he : (#[.int .i64 c.o.k, x.2.1, x.2.2, .int .i64 (c.num : Int), .bool c.away, .bool c.ch] : Array Value).setIfInBounds j v = #[.int .i64 c'.o.k, x.2.1, x.2.2, .int .i64 (c'.num : Int), .bool c'.away, .bool c'.ch]) :
    CelAt (w.setCell ⟨x.1, j, none⟩ v) x c' := by
  have hne := h.ne
  refine ⟨?_, ?_, ?_, by rw [ho]; exact h.dig⟩
  · rw [← he]; exact heap_setCell_same w _ j _ _ v h.hd
  · rw [ho]; exact own_other h.vs fun k e => heap_setCell_other _ _ _ _ (fun e2 => hne.1 (by rw [e]; exact congrArg some e2))
  · rw [ho]; exact own_other h.bs fun k e => heap_setCell_other _ _ _ _ (fun e2 => hne.2.1 (by rw [e]; exact congrArg some e2))
/-- A value that is set. -/
theorem CelAt.setV (h : CelAt w x c) {k : Nat} (hk : k < c.o.vs.length) (y : Int × Int) {b : Nat} (hb : x.2.1.ownBlock = some b) :
    CelAt ((w.setCell ⟨b, k * 2, none⟩ (.int .i64 y.1)).setCell ⟨b, k * 2 + 1, none⟩ (.int .i64 y.2)) x { c with o := { c.o with vs := c.o.vs.set k y } } := by
  have hne := h.ne
  have n1 : x.1 ≠ b := fun e => hne.1 (by rw [hb, e])
  refine ⟨(heap_setCell_other _ _ _ _ n1).trans ((heap_setCell_other _ _ _ _ n1).trans h.hd), ?_, ?_, h.dig⟩
  · obtain ⟨q, d, e⟩ := h.vform
    have hvs := h.vs
    rw [e] at hvs hb ⊢
    obtain ⟨b2, d2, e2⟩ := own_some hvs (by omega)
    cases e2
    cases hb
    have h2 := (((hvs.stored (k * 2) (.int .i64 y.1)).1).stored (k * 2 + 1) (.int .i64 y.2)).1
    rw [flatV_set _ _ _ hk] at h2
    show World.ownsRow _ 0 36 2 _ (c.o.vs.set k y).length (flatV (c.o.vs.set k y))
    rw [List.length_set]
    exact h2
  · refine own_other h.bs fun k2 e => ?_
    have n2 : k2 ≠ b := fun e2 => hne.2.2 b hb (by rw [e, e2])
    exact (heap_setCell_other _ _ _ _ n2).trans (heap_setCell_other _ _ _ _ n2)
/-- A byte that is set. -/
theorem CelAt.setB (h : CelAt w x c) {k : Nat} (hk : k < c.o.bs.length) (y : Nat) (hy : y < 256) {b : Nat} (hb : x.2.2.ownBlock = some b) :
    CelAt (w.setCell ⟨b, k, none⟩ (.int .u8 (y : Int))) x { c with o := { c.o with bs := c.o.bs.set k y } } := by
  have hne := h.ne
  have n1 : x.1 ≠ b := fun e => hne.2.1 (by rw [hb, e])
  refine ⟨(heap_setCell_other _ _ _ _ n1).trans h.hd, ?_, ?_, ?_⟩
  · refine own_other h.vs fun k2 e => ?_
    have n2 : k2 ≠ b := fun e2 => hne.2.2 k2 e (by rw [hb, e2])
    exact heap_setCell_other _ _ _ _ n2
  · obtain ⟨q, d, e⟩ := h.bform
    have hbs := h.bs
    rw [e] at hbs hb ⊢
    obtain ⟨b2, d2, e2⟩ := own_some hbs (by omega)
    cases e2
    cases hb
    have h2 := (hbs.stored k (.int .u8 (y : Int))).1
    have e3 : u8s (c.o.bs.set k y) = (u8s c.o.bs).set k (.int .u8 (y : Int)) := by unfold u8s; rw [List.map_set]
    show World.ownsRow _ 0 5 1 _ (c.o.bs.set k y).length (u8s (c.o.bs.set k y))
    rw [List.length_set, e3]
    exact h2
  · intro z hz
    rcases List.mem_or_eq_of_mem_set hz with h3 | rfl
    · exact h.dig z h3
    · exact hy
end
/-- The row of places. -/
def ptrV (S : Nat → Option Pos) (i : Nat) : Value := .pointer ((S i).map fun x => ⟨x.1, 0, none⟩)
def ptrs (S : Nat → Option Pos) (n : Nat) : List Value := (List.range n).map (ptrV S)
theorem ptrs_len (S : Nat → Option Pos) (n : Nat) : (ptrs S n).length = n := by unfold ptrs; simp
theorem ptrs_get (S : Nat → Option Pos) (n i : Nat) (h : i < n) : (ptrs S n)[i]? = some (ptrV S i) := by unfold ptrs; simp [h]
theorem ptrs_succ (S : Nat → Option Pos) (n : Nat) : ptrs S (n + 1) = ptrs S n ++ [ptrV S n] := by unfold ptrs; rw [List.range_succ, List.map_append]; rfl
theorem ptrs_congr {S T : Nat → Option Pos} {n : Nat} (h : ∀ i, i < n → S i = T i) : ptrs S n = ptrs T n := by
  unfold ptrs
  refine List.map_congr_left fun i hi => ?_
  unfold ptrV; rw [h i (by simpa using hi)]
def putS (S : Nat → Option Pos) (i : Nat) (x : Option Pos) : Nat → Option Pos := fun j => if j = i then x else S j
theorem ptrs_set (S : Nat → Option Pos) (n i : Nat) (x : Option Pos) : (ptrs S n).set i (.pointer (x.map fun x => ⟨x.1, 0, none⟩)) = ptrs (putS S i x) n := by
  apply List.ext_getElem?
  intro j
  rw [List.getElem?_set]
  rcases Nat.lt_or_ge j n with h | h
  · rw [ptrs_get _ _ _ h, ptrs_get _ _ _ h, ptrs_len]
    unfold ptrV putS
    by_cases e : i = j
    · subst e; simp [h]
    · rw [if_neg e, if_neg (fun e2 => e e2.symm)]
  · rw [List.getElem?_eq_none (by rw [ptrs_len]; exact h), List.getElem?_eq_none (by rw [ptrs_len]; exact h), ptrs_len]
    split
    · rw [if_neg (by omega)]
    · rfl
/-- The memory of objects, in memory. -/
structure Hp (w : World) (g : Nat) (vr : Value) (mb : Nat) (S : Nat → Option Pos) (m : Hm) : Prop where
  hd : w.heap[g]? = some (.cells #[.int .i64 (m.lim : Int), vr, .int .i64 (liveN m.L : Int), .int .i64 (m.least : Int), .map (some mb), m.by_, .int .i64 (m.fet : Int)] 94 (0, 0))
  row : w.ownsRow 0 98 1 vr m.L.length (ptrs S m.L.length)
  at_ : ∀ i c, clAt m.L i = some c → ∃ x, S i = some x ∧ CelAt w x c
  none_ : ∀ i, clAt m.L i = none → S i = none
  nums : Nums w mb m.f
  sep : ∀ i j x y, i ≠ j → S i = some x → S j = some y → ∀ k, blkP x k → ¬ blkP y k
  ok : m.Ok
/-- Its blocks. -/
def footH (g : Nat) (vr : Value) (mb : Nat) (S : Nat → Option Pos) : Nat → Prop := fun k => k = g ∨ vr.ownBlock = some k ∨ k = mb ∨ ∃ i x, S i = some x ∧ blkP x k
/-- The memory of objects; F are its blocks. -/
def Hep (w : World) (g : Nat) (F : Nat → Prop) (m : Hm) : Prop := ∃ vr mb S, Hp w g vr mb S m ∧ F = footH g vr mb S
/-- What a call makes of it. -/
def WentH (F : Nat → Prop) (g : Nat) (m : Hm) (w w' : World) : Prop := ∃ F', Hep w' g F' m ∧ Chp F F' w w'
section
variable {w w' : World} {g mb : Nat} {vr : Value} {S : Nat → Option Pos} {m : Hm}
theorem Hp.glt (h : Hp w g vr mb S m) : g < w.heap.size := lt_of_block h.hd
theorem Hp.c0 (h : Hp w g vr mb S m) : w.cell? ⟨g, 0, none⟩ = some (.int .i64 (m.lim : Int)) := by rw [cell_of_row w _ 0 _ _ _ h.hd]; rfl
theorem Hp.c1 (h : Hp w g vr mb S m) : w.cell? ⟨g, 1, none⟩ = some vr := by rw [cell_of_row w _ 1 _ _ _ h.hd]; rfl
theorem Hp.c2 (h : Hp w g vr mb S m) : w.cell? ⟨g, 2, none⟩ = some (.int .i64 (liveN m.L : Int)) := by rw [cell_of_row w _ 2 _ _ _ h.hd]; rfl
theorem Hp.c3 (h : Hp w g vr mb S m) : w.cell? ⟨g, 3, none⟩ = some (.int .i64 (m.least : Int)) := by rw [cell_of_row w _ 3 _ _ _ h.hd]; rfl
theorem Hp.c4 (h : Hp w g vr mb S m) : w.cell? ⟨g, 4, none⟩ = some (.map (some mb)) := by rw [cell_of_row w _ 4 _ _ _ h.hd]; rfl
theorem Hp.c5 (h : Hp w g vr mb S m) : w.cell? ⟨g, 5, none⟩ = some m.by_ := by rw [cell_of_row w _ 5 _ _ _ h.hd]; rfl
theorem Hp.c6 (h : Hp w g vr mb S m) : w.cell? ⟨g, 6, none⟩ = some (.int .i64 (m.fet : Int)) := by rw [cell_of_row w _ 6 _ _ _ h.hd]; rfl
theorem Hp.fz (h : Hp w g vr mb S m) (j : Nat) : w.frozen? ⟨g, j, none⟩ = false := frozen_of_row w _ j _ _ h.hd
theorem Hp.form (h : Hp w g vr mb S m) : ∃ q d, vr = .slice q m.L.length d := own_form h.row
theorem Hp.short (h : Hp w g vr mb S m) : m.L.length ≤ 16384 := Nat.le_trans h.ok.len h.ok.l1
theorem Hp.pos (h : Hp w g vr mb S m) {i : Nat} {x : Pos} (hx : S i = some x) : ∃ c, clAt m.L i = some c ∧ CelAt w x c := by
  cases hc : clAt m.L i with
  | none => rw [h.none_ i hc] at hx; cases hx
  | some c =>
    obtain ⟨y, hy, hca⟩ := h.at_ i c hc
    rw [hx] at hy; cases hy
    exact ⟨c, rfl, hca⟩
theorem Hp.lt (h : Hp w g vr mb S m) : ∀ k, footH g vr mb S k → k < w.heap.size := by
  rintro k (rfl | e | rfl | ⟨i, x, hx, hk⟩)
  · exact h.glt
  · exact own_lt h.row e
  · exact h.nums.lt
  · obtain ⟨c, _, hc⟩ := h.pos hx
    exact hc.lt k hk
theorem Hp.keep (h : Hp w g vr mb S m) (hb : ∀ k, footH g vr mb S k → w'.heap[k]? = w.heap[k]?) : Hp w' g vr mb S m :=
  ⟨(hb g (.inl rfl)).trans h.hd, own_other h.row fun k e => hb k (.inr (.inl e)), fun i c hc => by
    obtain ⟨x, hx, hca⟩ := h.at_ i c hc
    exact ⟨x, hx, hca.keep fun k hk => hb k (.inr (.inr (.inr ⟨i, x, hx, hk⟩)))⟩, h.none_, h.nums.same (hb mb (.inr (.inr (.inl rfl)))), h.sep, h.ok⟩
theorem Hp.below (h : Hp w g vr mb S m) (hb : Below w.heap.size w w') : Hp w' g vr mb S m := h.keep fun k hk => hb.block k (h.lt k hk)
theorem Hp.hep (h : Hp w g vr mb S m) : Hep w g (footH g vr mb S) m := ⟨_, _, _, h, rfl⟩
/-- Blocks told apart by what they are. -/
theorem Hp.ne (h : Hp w g vr mb S m) : g ≠ mb ∧ (∀ k, vr.ownBlock = some k → k ≠ g ∧ k ≠ mb) ∧ ∀ i x, S i = some x → ∀ k, blkP x k → k ≠ g ∧ k ≠ mb ∧ vr.ownBlock ≠ some k := by
  obtain ⟨es, cl, hm⟩ := h.nums.isMap
  have hmap : ∀ k cs t fr, w.heap[k]? = some (.cells cs t fr) → k ≠ mb := fun k cs t fr hk e => by subst e; rw [hm] at hk; cases hk
  refine ⟨hmap _ _ _ _ h.hd, fun k e => ?_, fun i x hx k hk => ?_⟩
  · obtain ⟨cur, hc⟩ := own_head h.row e
    exact ⟨ne_of_ty hc h.hd (by decide), hmap _ _ _ _ hc⟩
  · obtain ⟨c, _, hc⟩ := h.pos hx
    have key : ∃ cs t, w.heap[k]? = some (.cells cs t (0, 0)) ∧ t ≠ 94 ∧ t ≠ 98 := by
      rcases hk with rfl | e | e
      · exact ⟨_, _, hc.hd, by decide, by decide⟩
      · obtain ⟨cur, h2⟩ := own_head hc.vs e; exact ⟨_, _, h2, by decide, by decide⟩
      · obtain ⟨cur, h2⟩ := own_head hc.bs e; exact ⟨_, _, h2, by decide, by decide⟩
    obtain ⟨cs, t, h2, t1, t2⟩ := key
    refine ⟨ne_of_ty h2 h.hd t1, hmap _ _ _ _ h2, fun e => ?_⟩
    obtain ⟨cur, h3⟩ := own_head h.row e
    exact ne_of_ty h2 h3 t2 rfl
/-- The cell of a place in the row. -/
theorem Hp.at' (h : Hp w g vr mb S m) {k : Nat} (hk : k < m.L.length) : ∃ b c, vr = .slice (some ⟨b, 0, none⟩) m.L.length c ∧ m.L.length ≤ c ∧ w.cell? ⟨b, k, none⟩ = some (ptrV S k) ∧ w.frozen? ⟨b, k, none⟩ = false := by
  obtain ⟨b, c, e⟩ := own_some h.row (by omega)
  subst e
  have hr := h.row
  have a1 := hr.cellAt k (by omega)
  rw [ptrs_get _ _ _ hk] at a1
  exact ⟨b, c, rfl, own_cap hr, a1, hr.frozenAt _⟩
/-- An object's cell that is changed. -/
theorem Hp.setCl (h : Hp w g vr mb S m) {i : Nat} {x : Pos} {c d : Cl} (hx : S i = some x) (hd : clAt m.L i = some d) (hn : c.num = d.num)
    (hw : ∀ k, k < w.heap.size → ¬ blkP x k → w'.heap[k]? = w.heap[k]?) (hc : CelAt w' x c) : Hp w' g vr mb S (m.set i c) := by
  obtain ⟨n0, n1, n2⟩ := h.ne
  have hi := clAt_some hd
  have hat : ∀ j, clAt (m.set i c).L j = if j = i then some c else clAt m.L j := fun j => clAt_set hi
  have hlen : (m.set i c).L.length = m.L.length := List.length_set ..
  have hlive : liveN (m.set i c).L = liveN m.L := liveN_set_same c d hd
  have hxk := fun k hk => n2 i x hx k hk
  refine ⟨?_, ?_, ?_, ?_, ?_, h.sep, h.ok.set hd hn⟩
  · rw [hlive]
    exact (hw g h.glt (fun e => (hxk g e).1 rfl)).trans h.hd
  · rw [hlen]
    exact own_other h.row fun k e => hw k (own_lt h.row e) (fun e2 => (hxk k e2).2.2 e)
  · intro j e he
    rw [hat] at he
    split at he
    · rename_i ej; subst ej; cases he; exact ⟨x, hx, hc⟩
    · rename_i hj
      obtain ⟨y, hy, hca⟩ := h.at_ j e he
      exact ⟨y, hy, hca.keep fun k hk => hw k (hca.lt k hk) (h.sep j i y x hj hy hx k hk)⟩
  · intro j hj
    rw [hat] at hj
    split at hj
    · cases hj
    · exact h.none_ j hj
  · exact h.nums.same (hw mb h.nums.lt (fun e => (hxk mb e).2.1 rfl))
end
theorem Hep.ok {w : World} {g : Nat} {F : Nat → Prop} {m : Hm} (h : Hep w g F m) : m.Ok := by obtain ⟨_, _, _, h, _⟩ := h; exact h.ok
theorem Hep.lt {w : World} {g : Nat} {F : Nat → Prop} {m : Hm} (h : Hep w g F m) : ∀ k, F k → k < w.heap.size := by obtain ⟨_, _, _, h, rfl⟩ := h; exact h.lt
theorem Hep.keep {w w' : World} {g : Nat} {F : Nat → Prop} {m : Hm} (h : Hep w g F m) (hb : ∀ k, F k → w'.heap[k]? = w.heap[k]?) : Hep w' g F m := by
  obtain ⟨_, _, _, h, rfl⟩ := h
  exact (h.keep hb).hep
theorem Hep.below {w w' : World} {g : Nat} {F : Nat → Prop} {m : Hm} (h : Hep w g F m) (hb : Below w.heap.size w w') : Hep w' g F m := h.keep fun k hk => hb.block k (h.lt k hk)
theorem WentH.below {w w' : World} {g : Nat} {F : Nat → Prop} {m : Hm} (h : Hep w g F m) (hb : Below w.heap.size w w') : WentH F g m w w' := ⟨F, h.below hb, Chp.of_below hb⟩
theorem WentH.then {w w' w2 : World} {F : Nat → Prop} {g : Nat} {m : Hm} (h : WentH F g m w w') (hb : Below w'.heap.size w' w2) : WentH F g m w w2 := by
  obtain ⟨F', h1, h2⟩ := h
  exact ⟨F', h1.below hb, h2.trans (Chp.of_below hb)⟩
end Go.Proofs.Ytekmboolfjicbaa
