/- Tables as functions: what is told of each logical page; rows of numbers in memory. -/
import Derived.Test.YtamfkglkgfggaaaWith
import Derived.Deep.MidRow
import Derived.Deep.WholeRow
import Derived.ChangeKeysEq
namespace Go.Proofs.Ytamfkglkgfggaaa
open Go.RowKit

/-- Some of the numbers of a row, as values. -/
def ints (f : Nat → Nat) (a n : Nat) : List Value := (List.range n).map fun j => Value.int .i64 ((f (a + j) : Nat) : Int)
theorem ints_len (f : Nat → Nat) (a n : Nat) : (ints f a n).length = n := by simp [ints]
theorem ints_get (f : Nat → Nat) (a n j : Nat) (h : j < n) : (ints f a n)[j]? = some (.int .i64 ((f (a + j) : Nat) : Int)) := by
  unfold ints; rw [List.getElem?_map, List.getElem?_range h]; rfl
theorem ints_one (f : Nat → Nat) (a n : Nat) : ∀ v ∈ ints f a n, v.oneCell' = true := by
  intro v hv
  obtain ⟨j, _, rfl⟩ := List.mem_map.1 hv
  rfl
theorem ints_congr {f g : Nat → Nat} {a b n : Nat} (h : ∀ j, j < n → f (a + j) = g (b + j)) : ints f a n = ints g b n :=
  List.map_congr_left fun j hj => by rw [h j (List.mem_range.1 hj)]
theorem ints_cons (f : Nat → Nat) (a n : Nat) : ints f a (n + 1) = .int .i64 ((f a : Nat) : Int) :: ints f (a + 1) n := by
  unfold ints
  rw [List.range_succ_eq_map, List.map_cons, List.map_map]
  congr 1
  exact List.map_congr_left fun j _ => by simp only [Function.comp_apply]; rw [show a + (j + 1) = a + 1 + j by omega]
theorem ints_inj {f g : Nat → Nat} {a b n : Nat} (h : ints f a n = ints g b n) : ∀ j, j < n → f (a + j) = g (b + j) := by
  intro j hj
  have h1 := ints_get f a n j hj
  rw [h, ints_get g b n j hj] at h1
  simp only [Option.some.injEq, Value.int.injEq, true_and] at h1
  omega
/-- A row of numbers. -/
def rowA (f : Nat → Nat) (n : Nat) : Array Value := (ints f 0 n).toArray
theorem rowA_size (f : Nat → Nat) (n : Nat) : (rowA f n).size = n := by simp [rowA, ints_len]
theorem rowA_get (f : Nat → Nat) (n i : Nat) (h : i < n) : (rowA f n)[i]? = some (.int .i64 ((f i : Nat) : Int)) := by
  have := ints_get f 0 n i h
  rw [Nat.zero_add] at this
  simpa [rowA] using this
theorem rowA_ext {f g : Nat → Nat} {n : Nat} (h : ∀ i, i < n → f i = g i) : rowA f n = rowA g n := by
  unfold rowA; rw [ints_congr (f := f) (g := g) (a := 0) (b := 0) (fun j hj => by rw [Nat.zero_add]; exact h j hj)]
theorem rowA_one (f : Nat → Nat) (n : Nat) : (rowA f n).all (·.oneCell') = true := all_oneCell_toArray (ints_one f 0 n)
theorem rowA_inj {f g : Nat → Nat} {n : Nat} (h : rowA f n = rowA g n) : ∀ i, i < n → f i = g i := by
  intro i hi
  have h1 := rowA_get f n i hi
  rw [h, rowA_get g n i hi] at h1
  simp only [Option.some.injEq, Value.int.injEq, true_and] at h1
  omega
/-- Numbers with another one at a place. -/
def updN (f : Nat → Nat) (i v : Nat) : Nat → Nat := fun j => if j = i then v else f j
theorem updN_same (f : Nat → Nat) (i v : Nat) : updN f i v i = v := if_pos rfl
theorem updN_other (f : Nat → Nat) (i j v : Nat) (h : j ≠ i) : updN f i v j = f j := if_neg h
theorem rowA_set (f : Nat → Nat) (n i v : Nat) : (rowA f n).set! i (.int .i64 (v : Int)) = rowA (updN f i v) n := by
  apply Array.ext_getElem?
  intro j
  by_cases hj : j < n
  · rw [rowA_get _ _ _ hj, Array.set!_eq_setIfInBounds, Array.getElem?_setIfInBounds]
    by_cases e : i = j
    · subst e; rw [if_pos rfl, rowA_size, if_pos hj, updN_same]
    · rw [if_neg e, rowA_get _ _ _ hj, updN_other _ _ _ _ (fun h => e h.symm)]
  · rw [Array.getElem?_eq_none (by simp [rowA_size]; omega), Array.getElem?_eq_none (by rw [rowA_size]; omega)]
/-- Numbers of which some were written over. -/
def over (f : Nat → Nat) (o : Nat) (v : Nat → Nat) (a k : Nat) : Nat → Nat := fun l => if o ≤ l ∧ l < o + k then v (a + (l - o)) else f l
theorem over_in (f : Nat → Nat) (o : Nat) (v : Nat → Nat) (a k j : Nat) (h : j < k) : over f o v a k (o + j) = v (a + j) := by
  unfold over; rw [if_pos (by omega), show o + j - o = j by omega]
theorem over_out (f : Nat → Nat) (o : Nat) (v : Nat → Nat) (a k l : Nat) (h : l < o ∨ o + k ≤ l) : over f o v a k l = f l := by
  unfold over; rw [if_neg (by omega)]

/-- The block is a row of these numbers. -/
def IsT (w : World) (g t : Nat) (f : Nat → Nat) (n : Nat) : Prop := w.heap[g]? = some (.cells (rowA f n) t (0, 0))
section
variable {w w' : World} {g t n : Nat} {f : Nat → Nat}
theorem IsT.lt (h : IsT w g t f n) : g < w.heap.size := lt_of_block h
theorem IsT.cell (h : IsT w g t f n) (i : Nat) (hi : i < n) : w.cell? ⟨g, i, none⟩ = some (.int .i64 ((f i : Nat) : Int)) := by
  rw [cell_of_row w g i _ _ _ h]; exact rowA_get f n i hi
theorem IsT.free (h : IsT w g t f n) (i : Nat) : w.frozen? ⟨g, i, none⟩ = false := frozen_of_row w g i _ _ h
theorem IsT.put (h : IsT w g t f n) (i v : Nat) : IsT (w.setCell ⟨g, i, none⟩ (.int .i64 (v : Int))) g t (updN f i v) n := by
  have h2 := heap_setCell_same w g i _ _ (.int .i64 (v : Int)) h
  unfold IsT
  rw [← rowA_set]
  exact h2
theorem IsT.same (h : IsT w g t f n) (hb : w'.heap[g]? = w.heap[g]?) : IsT w' g t f n := hb.trans h
theorem IsT.below (h : IsT w g t f n) (hb : Below w.heap.size w w') : IsT w' g t f n := h.same (hb.block g h.lt)
theorem IsT.only {k : Nat} (h : IsT w g t f n) (hk : Only k w w') (hg : g ≠ k) : IsT w' g t f n := h.same (hk.block g h.lt hg)
theorem IsT.other (h : IsT w g t f n) {a : Addr} (ha : g ≠ a.block) (v : Value) : IsT (w.setCell a v) g t f n := (heap_setCell_other w a g v ha).trans h
theorem IsT.ext (h : IsT w g t f n) {f2 : Nat → Nat} (hf : ∀ i, i < n → f i = f2 i) : IsT w g t f2 n := by
  unfold IsT at h ⊢
  rw [h, rowA_ext hf]
theorem IsT.overRow (h : IsT w g t f n) (f2 : Nat → Nat) : IsT (w.setRow g (rowA f2 n)) g t f2 n := setRow_heap w g _ _ _ _ h
theorem IsT.there (h : IsT w g t f n) (o k : Nat) (hk : o + k ≤ n) : w.there g o k := fun j hj =>
  ⟨by rw [h.cell (o + j) (by omega)]; rfl, h.free _⟩
theorem IsT.range (h : IsT w g t f n) (o k : Nat) (hk : o + k ≤ n) : w.rangeAt g o (ints f o k) := fun j v hv => by
  have hj : j < k := by
    have := (List.getElem?_eq_some_iff.1 hv).1
    rwa [ints_len] at this
  rw [h.cell (o + j) (by omega), ← ints_get f o k j hj]; exact hv
theorem IsT.segs {v : Nat → Nat} (k : Nat) : ∀ (o a : Nat) (f : Nat → Nat) (w : World), IsT w g t f n → IsT (w.setCells g o (ints v a k)) g t (over f o v a k) n := by
  induction k with
  | zero =>
    intro o a f w h
    refine IsT.ext (f := f) h fun i _ => ?_
    rw [over_out _ _ _ _ _ _ (by omega)]
  | succ k ih =>
    intro o a f w h
    rw [ints_cons, World.setCells]
    refine (ih (o + 1) (a + 1) _ _ (h.put o (v a))).ext fun i _ => ?_
    by_cases e : i = o
    · subst e
      rw [over_out _ _ _ _ _ _ (by omega), updN_same]
      have := over_in f i v a (k + 1) 0 (by omega)
      exact this.symm
    · by_cases hin : o ≤ i ∧ i < o + (k + 1)
      · obtain ⟨j, rfl⟩ : ∃ j, i = o + 1 + j := ⟨i - (o + 1), by omega⟩
        rw [over_in _ _ _ _ _ _ (by omega), show o + 1 + j = o + (1 + j) by omega, over_in _ _ _ _ _ _ (by omega)]
        congr 1; omega
      · rw [over_out _ _ _ _ _ _ (by omega), over_out _ _ _ _ _ _ (by omega), updN_other _ _ _ _ e]
theorem only_segs (w : World) (g o : Nat) (vs : List Value) : Only g w (w.setCells g o vs) := by
  have hk := World.keptBut_setCells g (may := fun _ => True) vs o w (fun _ _ => trivial)
  induction vs generalizing o w with
  | nil => exact Only.refl g w
  | cons v r ih => exact (Only.setCell g o v w).trans (ih (w.setCell ⟨g, o, none⟩ v) (o + 1) (World.keptBut_setCells g (may := fun _ => True) r (o + 1) _ (fun _ _ => trivial)))
end

/-- A page of the disk, or none. -/
def pgN (v : Nat) : Bool := decide (v = 0) || (decide (2 ≤ v) && decide (v < 512))
def Ok (f : Nat → Nat) : Prop := ∀ l, pgN (f l) = true
theorem Ok.lt {f : Nat → Nat} (h : Ok f) (l : Nat) : f l < 512 := by
  have := h l
  simp [pgN] at this; omega
theorem Ok.upd {f : Nat → Nat} (h : Ok f) (i : Nat) {v : Nat} (hv : pgN v = true) : Ok (updN f i v) := fun l => by
  unfold updN; split
  · exact hv
  · exact h l
theorem Ok.over {f v : Nat → Nat} (h : Ok f) (o a k : Nat) (hv : ∀ j, j < k → pgN (v (a + j)) = true) : Ok (over f o v a k) := fun l => by
  unfold Go.Proofs.Ytamfkglkgfggaaa.over; split
  · exact hv _ (by omega)
  · exact h l
/-- May a page of the disk be told? -/
def pgI (x : Int) : Bool := decide (2 ≤ x) && decide (x < 512)
theorem pgI_nat {v : Nat} (h : pgI (v : Int) = true) : pgN v = true := by
  simp only [pgI, Bool.and_eq_true, decide_eq_true_eq] at h
  simp [pgN]; omega
/-- Block g holds a table. -/
structure Tab (w : World) (g : Nat) (f : Nat → Nat) : Prop where
  row : IsT w g 84 f 512
  ok : Ok f
section
variable {w w' : World} {g : Nat} {f : Nat → Nat}
theorem Tab.lt (h : Tab w g f) : g < w.heap.size := h.row.lt
theorem Tab.same (h : Tab w g f) (hb : w'.heap[g]? = w.heap[g]?) : Tab w' g f := ⟨h.row.same hb, h.ok⟩
theorem Tab.below (h : Tab w g f) (hb : Below w.heap.size w w') : Tab w' g f := ⟨h.row.below hb, h.ok⟩
theorem Tab.only {k : Nat} (h : Tab w g f) (hk : Only k w w') (hg : g ≠ k) : Tab w' g f := ⟨h.row.only hk hg, h.ok⟩
theorem Tab.drew (h : Tab w g f) : Tab w.drew g f := h.same rfl
end
/-- What a row tells of a logical page: 0 of one that there isn't. -/
def getI (f : Nat → Nat) (x : Int) : Nat := if 0 ≤ x ∧ x < 512 then f x.toNat else 0
theorem getI_nat (f : Nat → Nat) {i : Nat} (h : i < 512) : getI f (i : Int) = f i := by unfold getI; rw [if_pos (by omega), Int.toNat_natCast]
theorem getI_out (f : Nat → Nat) {x : Int} (h : ¬ (0 ≤ x ∧ x < 512)) : getI f x = 0 := if_neg h
/-- Is the logical page told? -/
def free (f : Nat → Nat) : Nat → Bool := fun l => f l == 0
/-- How many pages are told. -/
def told (f : Nat → Nat) : Nat → Bool := fun l => !(f l == 0)
end Go.Proofs.Ytamfkglkgfggaaa
