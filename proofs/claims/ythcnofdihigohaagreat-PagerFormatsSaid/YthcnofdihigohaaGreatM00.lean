/- Texts Bytes to Mod of this seat, laid into one. -/
import Derived.Test.YthcnofdihigohaaGreatProg
import Derived.WalkKit
import Derived.WalkSpells
import Derived.WalkLawsBesides
import Derived.Laws.BitsAllLaws
import Derived.Laws.OwnMore
import Derived.Lib.Hide
import Derived.Lib.SlBytesConst
import Derived.Outline
import Derived.OneCell
import Derived.OwnWalk
import Derived.Laws.CopyOwn
import Derived.Laws.BytesArg
import Derived.WideShapes
import Derived.Maps.AppendAt
import Derived.Lib.AppendZerosOnto
import Derived.Laws.AppendOwnNone
section
/- A slice of bytes that reads as these numbers; one of the call's own. -/
namespace Go.Proofs.YthcnofdihigohaaGreat
open Go.RowKit

/-- A slice of bytes that reads as these numbers. -/
structure Bys (w : World) (p : Option Addr) (n : Nat) (bs : List Nat) : Prop where
  len : bs.length = n
  dig : ∀ x ∈ bs, x < 256
  inn : 0 < n → ∃ b o, p = some ⟨b, o, none⟩ ∧ ∀ i, i < n → w.cell? ⟨b, o + i, none⟩ = some (.int .u8 ((bs.getD i 0 : Nat) : Int))
theorem Bys.keep {w w' : World} {p : Option Addr} {n : Nat} {bs : List Nat} (h : Bys w p n bs) (hb : ∀ a : Addr, a.block < w.heap.size → w'.cell? a = w.cell? a) : Bys w' p n bs :=
  ⟨h.len, h.dig, fun hn => by
    obtain ⟨b, o, e, hc⟩ := h.inn hn
    exact ⟨b, o, e, fun i hi => (hb ⟨b, o + i, none⟩ (World.block_lt_of_cell? w _ (hc i hi))).trans (hc i hi)⟩⟩
theorem Bys.below {w w' : World} {p : Option Addr} {n : Nat} {bs : List Nat} (h : Bys w p n bs) (hb : Below w.heap.size w w') : Bys w' p n bs := h.keep fun _ ha => hb.cell ha
theorem map_getD (bs : List Nat) (i : Nat) : (bs.map Int.ofNat).getD i 0 = ((bs.getD i 0 : Nat) : Int) := by
  rw [List.getD_eq_getElem?_getD, List.getD_eq_getElem?_getD, List.getElem?_map]
  cases bs[i]? <;> rfl
theorem Bys.at {w : World} {p : Option Addr} {n : Nat} {bs : List Nat} (h : Bys w p n bs) (hn : 0 < n) :
    ∃ b o, p = some ⟨b, o, none⟩ ∧ ∀ i, i < n → w.cell? ⟨b, o + i, none⟩ = some (.int .u8 ((bs.getD i 0 : Nat) : Int)) := h.inn hn
theorem Bys.zero (w : World) (p : Option Addr) : Bys w p 0 [] := ⟨rfl, by simp, fun h => absurd h (Nat.lt_irrefl 0)⟩
theorem Bys.nil_ {w : World} {p : Option Addr} {bs : List Nat} (h : Bys w p 0 bs) : bs = [] := List.length_eq_zero_iff.1 h.len
theorem Bys.getD {w : World} {p : Option Addr} {n : Nat} {bs : List Nat} (h : Bys w p n bs) (i : Nat) : bs.getD i 0 < 256 := by
  rw [List.getD_eq_getElem?_getD]
  cases e : bs[i]? with
  | none => decide
  | some x => exact h.dig x (List.mem_of_getElem? e)
theorem take_succ_getD (a : List Nat) (k : Nat) (h : k < a.length) : a.take (k + 1) = a.take k ++ [a.getD k 0] := by
  rw [List.take_succ_eq_append_getElem h, List.getD_eq_getElem?_getD, List.getElem?_eq_getElem h]; rfl
def u8s (bs : List Nat) : List Value := bs.map fun (x : Nat) => Value.int .u8 (x : Int)
theorem u8s_get (bs : List Nat) (i : Nat) (h : i < bs.length) : (u8s bs)[i]? = some (.int .u8 ((bs.getD i 0 : Nat) : Int)) := by
  unfold u8s
  rw [List.getElem?_map, List.getD_eq_getElem?_getD, List.getElem?_eq_getElem h]; rfl
theorem u8s_len (bs : List Nat) : (u8s bs).length = bs.length := by unfold u8s; simp
theorem u8s_append (a b : List Nat) : u8s (a ++ b) = u8s a ++ u8s b := List.map_append
theorem u8s_one (bs : List Nat) : ∀ v ∈ u8s bs, v.oneCell' = true := by
  intro v hv
  obtain ⟨x, _, rfl⟩ := List.mem_map.1 hv
  rfl
/-- A slice of the call's own that reads as these numbers. -/
theorem Bys.of_row {w : World} {base g n c : Nat} {bs : List Nat} (h : w.ownsRow base 5 1 (.slice (some ⟨g, 0, none⟩) n c) n (u8s bs)) (hb : ∀ x ∈ bs, x < 256) : Bys w (some ⟨g, 0, none⟩) n bs := by
  have hl : bs.length = n := by have := h.1; rw [u8s_len] at this; omega
  refine ⟨hl, hb, fun _ => ⟨g, 0, rfl, fun i hi => ?_⟩⟩
  have h2 := World.ownsRow.cells (h : w.ownsRow base 5 1 _ n (u8s bs)) (g := g) rfl i _ (u8s_get bs i (by omega))
  rw [← Go.WideShapes.add_plain]
  exact h2
theorem Bys.own {w : World} {base n c : Nat} {p : Option Addr} {bs : List Nat} (h : w.ownsRow base 5 1 (.slice p n c) n (u8s bs)) (hb : ∀ x ∈ bs, x < 256) : Bys w p n bs := by
  have hl : bs.length = n := by have := h.1; rw [u8s_len] at this; omega
  rcases h.2 with ⟨h0, h1⟩ | ⟨g, cap, cur, e, _⟩
  · subst h1
    exact ⟨hl, hb, fun h => absurd h (Nat.lt_irrefl 0)⟩
  · cases e
    exact Bys.of_row h hb
theorem Tryz.info5 : (Tryz.prog.info? 5).map (fun i => (i.zero, i.size, i.bytes)) = some (some (.int .u8 0), 1, 1) := by kernel_rfl
theorem Bys.cells {w : World} {p : Option Addr} {n : Nat} {bs : List Nat} (h : Bys w p n bs) (hn : 0 < n) : ∃ ad, p = some ad ∧ ∀ j v, (u8s bs)[j]? = some v → w.cell? (ad.add j) = some v := by
  obtain ⟨b, o, e, hc⟩ := h.at hn
  refine ⟨_, e, fun j v hv => ?_⟩
  have hj : j < bs.length := by
    rcases Nat.lt_or_ge j bs.length with h1 | h1
    · exact h1
    · rw [List.getElem?_eq_none (by rw [u8s_len]; exact h1)] at hv; cases hv
  rw [u8s_get bs j hj] at hv
  cases hv
  rw [Go.WideShapes.add_plain]
  exact hc j (by rw [← h.len]; exact hj)
theorem own_below {w w' : World} {base E m : Nat} {v : Value} {n : Nat} {xs : List Value} (h : w.ownsRow base E m v n xs) (hb : Below w.heap.size w w') : w'.ownsRow base E m v n xs := by
  obtain ⟨h1, h2⟩ := h
  refine ⟨h1, ?_⟩
  rcases h2 with h2 | ⟨g, cap, cur, e, hbg, hg, hr⟩
  · exact .inl h2
  · exact .inr ⟨g, cap, cur, e, hbg, (hb.block g (by
      rcases Nat.lt_or_ge g w.heap.size with h3 | h3
      · exact h3
      · rw [Array.getElem?_eq_none h3] at hg; cases hg)).trans hg, hr⟩
theorem own_slice {w : World} {base n : Nat} {v : Value} {xs : List Value} (h : w.ownsRow base 5 1 v n xs) : ∃ p c, v = .slice p n c := by
  rcases h.2 with ⟨h0, h1⟩ | ⟨g, cap, cur, e, _⟩
  · subst h1; exact ⟨none, 0, h0⟩
  · exact ⟨_, _, e⟩
theorem getD_take (a : List Nat) (k i : Nat) (h : i < k) : (a.take k).getD i 0 = a.getD i 0 := by
  rw [List.getD_eq_getElem?_getD, List.getD_eq_getElem?_getD, List.getElem?_take_of_lt h]
theorem getD_drop (a : List Nat) (k i : Nat) : (a.drop k).getD i 0 = a.getD (k + i) 0 := by
  rw [List.getD_eq_getElem?_getD, List.getD_eq_getElem?_getD, List.getElem?_drop]
theorem Bys.take {w : World} {p : Option Addr} {n : Nat} {bs : List Nat} (h : Bys w p n bs) {k : Nat} (hk : k ≤ n) : Bys w p k (bs.take k) :=
  ⟨by rw [List.length_take, h.len]; omega, fun x hx => h.dig x (List.mem_of_mem_take hx), fun hn => by
    obtain ⟨b, o, e, hc⟩ := h.at (by omega)
    exact ⟨b, o, e, fun i hi => by rw [hc i (by omega), getD_take _ _ _ hi]⟩⟩
theorem Bys.drop {w : World} {b o n : Nat} {bs : List Nat} (h : Bys w (some ⟨b, o, none⟩) n bs) {k j : Nat} (hk : k + j = n) : Bys w (some ⟨b, o + k, none⟩) j (bs.drop k) :=
  ⟨by rw [List.length_drop, h.len]; omega, fun x hx => h.dig x (List.mem_of_mem_drop hx), fun hn => by
    obtain ⟨b2, o2, e, hc⟩ := h.at (by omega)
    cases e
    exact ⟨b, o + k, rfl, fun i hi => by rw [Nat.add_assoc, hc (k + i) (by omega), getD_drop]⟩⟩
theorem dig_append {a b : List Nat} (ha : ∀ x ∈ a, x < 256) (hb : ∀ x ∈ b, x < 256) : ∀ x ∈ a ++ b, x < 256 := fun x hx => (List.mem_append.1 hx).elim (ha x) (hb x)
/-- The string of these bytes. -/
def strB (bs : List Nat) : ByteArray := strOfNums (bs.map Int.ofNat)
theorem strB_inj {xs ys : List Nat} (hx : ∀ x ∈ xs, x < 256) (hy : ∀ x ∈ ys, x < 256) (h : (strB xs).data.toList = (strB ys).data.toList) : xs = ys := by
  unfold strB at h
  rw [strOfNums_data, strOfNums_data] at h
  induction xs generalizing ys with
  | nil => cases ys with
    | nil => rfl
    | cons y ys => simp at h
  | cons x xs ih => cases ys with
    | nil => simp at h
    | cons y ys =>
      simp only [List.map_cons, List.cons.injEq] at h
      have h1 := congrArg UInt8.toNat h.1
      have hx1 := hx x (by simp)
      have hy1 := hy y (by simp)
      have e : x = y := by simpa [Nat.mod_eq_of_lt hx1, Nat.mod_eq_of_lt hy1] using h1
      rw [e, ih (fun z hz => hx z (by simp [hz])) (fun z hz => hy z (by simp [hz])) h.2]
/-- 'string(b)' of bytes. -/
theorem Bys.conv {w : World} {p : Option Addr} {n : Nat} {bs : List Nat} (h : Bys w p n bs) (c : Nat) :
    (convert 94 9 (.slice p n c)).run Tryz.prog w = .ok (.string (strB bs)) w := by
  have hl : (bs.map Int.ofNat).length = n := by rw [List.length_map, h.len]
  unfold strB
  rcases Nat.eq_zero_or_pos n with hn | hn
  · subst hn
    rw [List.eq_nil_of_length_eq_zero hl, run_convert_bytes_string w 94 9 5 p 0 c Tryz.underlying94 Tryz.underlying5 Tryz.underlying9]
    cases p with
    | none => simp [Conv.bytesToString]; rfl
    | some a => simp [Conv.bytesToString, loadCells]; rfl
  · obtain ⟨b, o, rfl, hc⟩ := h.at hn
    exact run_convert_bytes_arg (P := Tryz.prog) w 94 5 Tryz.underlying94 Tryz.underlying5 b o n c _ hl (fun i hi => by rw [hc i hi, map_getD]) 9 Tryz.underlying9
theorem Bys.other {w w' : World} {g : Nat} {p : Option Addr} {n : Nat} {bs : List Nat} (h : Bys w p n bs) (hp : 0 < n → ∀ b o, p = some ⟨b, o, none⟩ → b ≠ g) (hb : ∀ a : Addr, a.block ≠ g → w'.cell? a = w.cell? a) : Bys w' p n bs :=
  ⟨h.len, h.dig, fun hn => by
    obtain ⟨b, o, e, hc⟩ := h.inn hn
    exact ⟨b, o, e, fun i hi => (hb ⟨b, o + i, none⟩ (hp hn _ _ e)).trans (hc i hi)⟩⟩
theorem Bys.lt {w : World} {p : Option Addr} {n : Nat} {bs : List Nat} (h : Bys w p n bs) (hn : 0 < n) : ∀ b o, p = some ⟨b, o, none⟩ → b < w.heap.size := by
  intro b0 o0 e
  obtain ⟨b, o, e2, hc⟩ := h.inn hn
  rw [e] at e2
  cases e2
  exact World.block_lt_of_cell? w _ (hc 0 hn)
theorem one_cells (w : World) (x : Value) (t : TypeId) : ∀ (j : Nat) (u : Value), [x][j]? = some u → (w.alloc (.cells #[x] t)).cell? ((⟨w.heap.size, 0, none⟩ : Addr).add j) = some u := cell_one_new w x t
theorem one_u8 (x : Int) : ∀ u ∈ [Value.int .u8 x], u.oneCell' = true := by intro u hu; simp at hu; subst hu; rfl
/-- A slice of bytes, its value told. -/
def IsBys (w : World) (v : Value) (bs : List Nat) : Prop := ∃ p c, v = .slice p bs.length c ∧ Bys w p bs.length bs
end Go.Proofs.YthcnofdihigohaaGreat
end
section
/- Sets of small numbers as truths: their bytes, the next number, the runs. -/
namespace Go.Proofs.YthcnofdihigohaaGreat.Bi

/-- So many truths from a place on, as a number. -/
def bsum (f : Nat → Bool) (a : Nat) : Nat → Nat
  | 0 => 0
  | k + 1 => 2 ^ k * (f (a + k)).toNat + bsum f a k
theorem bsum_lt (f : Nat → Bool) (a k : Nat) : bsum f a k < 2 ^ k := by
  induction k with
  | zero => simp [bsum]
  | succ k ih =>
    show 2 ^ k * (f (a + k)).toNat + bsum f a k < 2 ^ (k + 1)
    rw [Nat.pow_succ]
    cases f (a + k)
    · simp; omega
    · simp; omega
theorem bsum_bit (f : Nat → Bool) (a k i : Nat) : (bsum f a k).testBit i = (decide (i < k) && f (a + i)) := by
  induction k with
  | zero => simp [bsum]
  | succ k ih =>
    show (2 ^ k * (f (a + k)).toNat + bsum f a k).testBit i = _
    rw [Nat.testBit_two_pow_mul_add _ (bsum_lt f a k)]
    by_cases h : i < k
    · rw [if_pos h, ih, decide_eq_true h, decide_eq_true (show i < k + 1 by omega)]
    · rw [if_neg h]
      by_cases h2 : i = k
      · subst h2
        rw [Nat.sub_self, decide_eq_true (Nat.lt_succ_self _)]
        cases f (a + i) <;> simp
      · rw [decide_eq_false (show ¬ i < k + 1 by omega)]
        obtain ⟨j, hj⟩ : ∃ j, i - k = j + 1 := ⟨i - k - 1, by omega⟩
        rw [hj]
        cases f (a + k) <;> simp [Nat.testBit_succ]
/-- Eight truths as a byte. -/
def byt (f : Nat → Bool) (j : Nat) : Nat := bsum f (8 * j) 8
theorem byt_lt (f : Nat → Bool) (j : Nat) : byt f j < 256 := bsum_lt f (8 * j) 8
theorem byt_bit (f : Nat → Bool) (j i : Nat) : (byt f j).testBit i = (decide (i < 8) && f (8 * j + i)) := bsum_bit f (8 * j) 8 i
theorem byt_congr {f g : Nat → Bool} {j : Nat} (h : ∀ i, i < 8 → f (8 * j + i) = g (8 * j + i)) : byt f j = byt g j := by
  apply Nat.eq_of_testBit_eq
  intro i
  rw [byt_bit, byt_bit]
  by_cases hi : i < 8
  · rw [h i hi]
  · rw [decide_eq_false hi]; rfl
theorem byt_get (f : Nat → Bool) (i : Nat) : (byt f (i / 8)).testBit (i % 8) = f i := by
  rw [byt_bit, decide_eq_true (Nat.mod_lt _ (by decide)), Bool.true_and, Nat.div_add_mod]
theorem byt_inj {f g : Nat → Bool} {j : Nat} (h : byt f j = byt g j) : ∀ i, i < 8 → f (8 * j + i) = g (8 * j + i) := by
  intro i hi
  have h1 := byt_bit f j i
  have h2 := byt_bit g j i
  rw [h, decide_eq_true hi, Bool.true_and] at h1
  rw [decide_eq_true hi, Bool.true_and] at h2
  rw [← h1, h2]
/-- Truths with another one at a place. -/
def upd (f : Nat → Bool) (i : Nat) (v : Bool) : Nat → Bool := fun j => if j = i then v else f j
theorem upd_same (f : Nat → Bool) (i : Nat) (v : Bool) : upd f i v i = v := if_pos rfl
theorem upd_other (f : Nat → Bool) (i j : Nat) (v : Bool) (h : j ≠ i) : upd f i v j = f j := if_neg h
theorem byt_or (f : Nat → Bool) (i : Nat) : byt f (i / 8) ||| 2 ^ (i % 8) = byt (upd f i true) (i / 8) := by
  apply Nat.eq_of_testBit_eq
  intro k
  rw [Nat.testBit_or, byt_bit, byt_bit, Nat.testBit_two_pow]
  unfold upd
  by_cases hk : k < 8
  · rw [decide_eq_true hk, Bool.true_and, Bool.true_and]
    by_cases h : i % 8 = k
    · rw [decide_eq_true h, if_pos (by omega), Bool.or_true]
    · rw [decide_eq_false h, if_neg (by omega), Bool.or_false]
  · rw [decide_eq_false hk, decide_eq_false (show ¬ i % 8 = k by omega)]; rfl
theorem byt_andNot (f : Nat → Bool) (i : Nat) : byt f (i / 8) &&& (255 - 2 ^ (i % 8)) = byt (upd f i false) (i / 8) := by
  have h255 : ∀ (r : Fin 8) (k : Fin 8), (255 - 2 ^ r.val).testBit k.val = !decide (r.val = k.val) := by decide
  apply Nat.eq_of_testBit_eq
  intro k
  rw [Nat.testBit_and, byt_bit, byt_bit]
  unfold upd
  by_cases hk : k < 8
  · rw [decide_eq_true hk, Bool.true_and, Bool.true_and, h255 ⟨i % 8, Nat.mod_lt _ (by decide)⟩ ⟨k, hk⟩]
    by_cases h : i % 8 = k
    · rw [decide_eq_true h, if_pos (by omega)]; simp
    · rw [decide_eq_false h, if_neg (by omega)]; simp
  · rw [decide_eq_false hk]; rfl
theorem byt_upd_far (f : Nat → Bool) (i j : Nat) (v : Bool) (h : j ≠ i / 8) : byt (upd f i v) j = byt f j :=
  byt_congr fun k hk => upd_other _ _ _ _ (by omega)
theorem byt_and (f : Nat → Bool) (i : Nat) : byt f (i / 8) &&& 2 ^ (i % 8) = (f i).toNat * 2 ^ (i % 8) := by
  have h := byt_get f i
  rw [Nat.testBit_eq_decide_div_mod_eq] at h
  rw [nat_bit]
  cases e : f i
  · rw [e] at h; have := of_decide_eq_false h; rw [show byt f (i / 8) / 2 ^ (i % 8) % 2 = 0 by omega]; rfl
  · rw [e] at h; rw [of_decide_eq_true h]; rfl
/-- The truths of some bytes. -/
def trs (bs : List Nat) : Nat → Bool := fun i => (bs.getD (i / 8) 0).testBit (i % 8)
theorem byt_trs (bs : List Nat) (j : Nat) (h : bs.getD j 0 < 256) : byt (trs bs) j = bs.getD j 0 := by
  apply Nat.eq_of_testBit_eq
  intro k
  rw [byt_bit]
  unfold trs
  by_cases hk : k < 8
  · rw [decide_eq_true hk, Bool.true_and, show (8 * j + k) / 8 = j by omega, show (8 * j + k) % 8 = k by omega]
  · rw [decide_eq_false hk, Bool.false_and]
    exact (Nat.testBit_lt_two_pow (Nat.lt_of_lt_of_le h (show 2 ^ 8 ≤ 2 ^ k from Nat.pow_le_pow_right (by omega) (by omega)))).symm
/-- How many bytes a size needs. -/
def need (n : Nat) : Nat := (n + 7) / 8
/-- The bytes of truths. -/
def rowF (f : Nat → Bool) (m : Nat) : List Nat := (List.range m).map (byt f)
theorem rowF_len (f : Nat → Bool) (m : Nat) : (rowF f m).length = m := by simp [rowF]
theorem rowF_getD (f : Nat → Bool) (m j : Nat) (h : j < m) : (rowF f m).getD j 0 = byt f j := by
  unfold rowF; rw [List.getD_eq_getElem?_getD, List.getElem?_map, List.getElem?_range h]; rfl
theorem rowF_dig (f : Nat → Bool) (m : Nat) : ∀ x ∈ rowF f m, x < 256 := by
  intro x hx
  obtain ⟨j, _, rfl⟩ := List.mem_map.1 hx
  exact byt_lt f j
theorem getD_ext {a b : List Nat} (hl : a.length = b.length) (h : ∀ j, j < a.length → a.getD j 0 = b.getD j 0) : a = b := by
  apply List.ext_getElem hl
  intro j h1 h2
  have := h j h1
  rwa [List.getD_eq_getElem?_getD, List.getD_eq_getElem?_getD, List.getElem?_eq_getElem h1, List.getElem?_eq_getElem h2] at this
theorem rowF_upd (f : Nat → Bool) (m i : Nat) (v : Bool) : (rowF f m).set (i / 8) (byt (upd f i v) (i / 8)) = rowF (upd f i v) m := by
  refine getD_ext (by simp [rowF_len]) fun j hj => ?_
  rw [List.length_set, rowF_len] at hj
  rw [rowF_getD _ _ _ hj, List.getD_eq_getElem?_getD, List.getElem?_set]
  by_cases h : i / 8 = j
  · subst h; simp [rowF_len, hj]
  · rw [if_neg h, ← List.getD_eq_getElem?_getD, rowF_getD _ _ _ hj, byt_upd_far _ _ _ _ (Ne.symm h)]
theorem rowF_congr {f g : Nat → Bool} {m : Nat} (h : ∀ i, i < 8 * m → f i = g i) : rowF f m = rowF g m := by
  refine getD_ext (by simp [rowF_len]) fun j hj => ?_
  rw [rowF_len] at hj
  rw [rowF_getD _ _ _ hj, rowF_getD _ _ _ hj]
  exact byt_congr fun i hi => h _ (by omega)
theorem rowF_inj {f g : Nat → Bool} {m : Nat} (h : rowF f m = rowF g m) : ∀ i, i < 8 * m → f i = g i := by
  intro i hi
  have h1 := rowF_getD f m (i / 8) (by omega)
  rw [h, rowF_getD g m (i / 8) (by omega)] at h1
  have := byt_inj h1 (i % 8) (Nat.mod_lt _ (by decide))
  rw [Nat.div_add_mod] at this
  exact this.symm
theorem rowF_trs {bs : List Nat} {m : Nat} (hl : bs.length = m) (hd : ∀ x ∈ bs, x < 256) : rowF (trs bs) m = bs := by
  refine getD_ext (by rw [rowF_len, hl]) fun j hj => ?_
  rw [rowF_len] at hj
  rw [rowF_getD _ _ _ hj]
  refine byt_trs bs j ?_
  rw [List.getD_eq_getElem?_getD, List.getElem?_eq_getElem (by omega)]
  exact hd _ (List.getElem_mem _)
theorem trs_rowF {f : Nat → Bool} {m i : Nat} (h : i < 8 * m) : trs (rowF f m) i = f i := by
  unfold trs
  rw [rowF_getD _ _ _ (by omega), byt_get]
theorem trs_far {bs : List Nat} {i : Nat} (h : 8 * bs.length ≤ i) : trs bs i = false := by
  unfold trs
  rw [List.getD_eq_getElem?_getD, List.getElem?_eq_none (by omega)]; simp
/-- Only numbers below the size. -/
def Sub (n : Nat) (f : Nat → Bool) : Prop := ∀ i, n ≤ i → f i = false
/-- What of truths is below a size. -/
def cut (n : Nat) (f : Nat → Bool) : Nat → Bool := fun i => decide (i < n) && f i
theorem cut_sub (n : Nat) (f : Nat → Bool) : Sub n (cut n f) := fun i h => by unfold cut; rw [decide_eq_false (by omega)]; rfl
theorem cut_of {n : Nat} {f : Nat → Bool} (h : Sub n f) : cut n f = f := by
  funext i
  unfold cut
  by_cases hi : i < n
  · rw [decide_eq_true hi, Bool.true_and]
  · rw [decide_eq_false hi, h i (by omega)]; rfl
theorem sub_ext {n : Nat} {f g : Nat → Bool} (hf : Sub n f) (hg : Sub n g) (h : ∀ i, i < n → f i = g i) : f = g := by
  funext i
  by_cases hi : i < n
  · exact h i hi
  · rw [hf i (by omega), hg i (by omega)]
theorem Sub.upd {n : Nat} {f : Nat → Bool} (h : Sub n f) {i : Nat} (hi : i < n) (v : Bool) : Sub n (upd f i v) := fun j hj => by rw [upd_other _ _ _ _ (by omega)]; exact h j hj

/-- The least place from some on where there is a truth, within so many. -/
def nx (h : Nat → Bool) : Nat → Nat → Option Nat
  | 0, _ => none
  | k + 1, i => if h i then some i else nx h k (i + 1)
/-- .. below a size. -/
def nxt (h : Nat → Bool) (n i : Nat) : Option Nat := nx h (n - i) i
/-- As a number: -1 if there is none. -/
def num : Option Nat → Int
  | none => -1
  | some j => (j : Int)
theorem nx_some {h : Nat → Bool} {k i j : Nat} (h1 : i ≤ j) (h2 : j < i + k) (h3 : h j = true) (h4 : ∀ x, i ≤ x → x < j → h x = false) : nx h k i = some j := by
  induction k generalizing i with
  | zero => omega
  | succ k ih =>
    unfold nx
    by_cases e : i = j
    · subst e; rw [if_pos h3]
    · rw [if_neg (by rw [h4 i (Nat.le_refl _) (by omega)]; decide)]
      exact ih (by omega) (by omega) (fun x hx hy => h4 x (by omega) hy)
theorem nx_none {h : Nat → Bool} {k i : Nat} (h4 : ∀ x, i ≤ x → x < i + k → h x = false) : nx h k i = none := by
  induction k generalizing i with
  | zero => rfl
  | succ k ih =>
    unfold nx
    rw [if_neg (by rw [h4 i (Nat.le_refl _) (by omega)]; decide)]
    exact ih (fun x hx hy => h4 x (by omega) (by omega))
theorem nxt_some {h : Nat → Bool} {n i j : Nat} (h1 : i ≤ j) (h2 : j < n) (h3 : h j = true) (h4 : ∀ x, i ≤ x → x < j → h x = false) : nxt h n i = some j := nx_some h1 (by omega) h3 h4
theorem nxt_none {h : Nat → Bool} {n i : Nat} (h4 : ∀ x, i ≤ x → x < n → h x = false) : nxt h n i = none := nx_none fun x hx hy => h4 x hx (by omega)
theorem nx_spec (h : Nat → Bool) (k i : Nat) : (∃ j, nx h k i = some j ∧ i ≤ j ∧ j < i + k ∧ h j = true ∧ ∀ x, i ≤ x → x < j → h x = false) ∨ (nx h k i = none ∧ ∀ x, i ≤ x → x < i + k → h x = false) := by
  induction k generalizing i with
  | zero => exact .inr ⟨rfl, fun x hx hy => by omega⟩
  | succ k ih =>
    unfold nx
    by_cases e : h i = true
    · rw [if_pos e]; exact .inl ⟨i, rfl, Nat.le_refl _, by omega, e, fun x hx hy => by omega⟩
    · rw [if_neg e]
      have e' : h i = false := by simpa using e
      rcases ih (i + 1) with ⟨j, h0, h1, h2, h3, h4⟩ | ⟨h0, h4⟩
      · exact .inl ⟨j, h0, by omega, by omega, h3, fun x hx hy => by
          by_cases hxi : x = i
          · rw [hxi]; exact e'
          · exact h4 x (by omega) hy⟩
      · exact .inr ⟨h0, fun x hx hy => by
          by_cases hxi : x = i
          · rw [hxi]; exact e'
          · exact h4 x (by omega) (by omega)⟩
theorem nxt_spec (h : Nat → Bool) (n i : Nat) : (∃ j, nxt h n i = some j ∧ i ≤ j ∧ j < n ∧ h j = true ∧ ∀ x, i ≤ x → x < j → h x = false) ∨ (nxt h n i = none ∧ ∀ x, i ≤ x → x < n → h x = false) := by
  rcases nx_spec h (n - i) i with ⟨j, h0, h1, h2, h3, h4⟩ | ⟨h0, h4⟩
  · exact .inl ⟨j, h0, h1, by omega, h3, h4⟩
  · exact .inr ⟨h0, fun x hx hy => h4 x hx (by omega)⟩
/-- How many truths there are among the first ones. -/
def cnt (f : Nat → Bool) : Nat → Nat
  | 0 => 0
  | k + 1 => cnt f k + (f k).toNat
theorem cnt_le (f : Nat → Bool) (k : Nat) : cnt f k ≤ k := by
  induction k with
  | zero => exact Nat.le_refl _
  | succ k ih => unfold cnt; cases f k <;> simp <;> omega
theorem cnt_skip {f : Nat → Bool} {i j : Nat} (hij : i ≤ j) (h : ∀ x, i ≤ x → x < j → f x = false) : cnt f j = cnt f i := by
  induction j with
  | zero => have : i = 0 := by omega
            subst this; rfl
  | succ j ih =>
    by_cases e : i = j + 1
    · subst e; rfl
    · show cnt f j + (f j).toNat = _
      rw [h j (by omega) (by omega), ih (by omega) (fun x hx hy => h x hx (by omega))]; rfl
theorem cnt_all {f : Nat → Bool} {i j : Nat} (hij : i ≤ j) (h : ∀ x, i ≤ x → x < j → f x = true) : cnt f j = cnt f i + (j - i) := by
  induction j with
  | zero => have : i = 0 := by omega
            subst this; rfl
  | succ j ih =>
    by_cases e : i = j + 1
    · subst e; simp
    · show cnt f j + (f j).toNat = _
      rw [h j (by omega) (by omega), ih (by omega) (fun x hx hy => h x hx (by omega))]
      simp; omega
end Go.Proofs.YthcnofdihigohaaGreat.Bi
end
section
/- What slices.Grow of nil and slices.Concat of pieces of bytes return. -/
set_option maxRecDepth 20000
namespace Go.Proofs.YthcnofdihigohaaGreat
open Go.RowKit

/-- A slice of the call's own, of no byte. -/
def Empty (base : Nat) (w' : World) (v : Value) : Prop := ∃ p c, v = .slice p 0 c ∧ w'.ownsRow base 5 1 (.slice p 0 c) 0 (u8s [])

set_option maxHeartbeats 800000 in
theorem grow_any (n : Nat) (w : World) (hn : n ≤ 1099511627776) :
    Calls Tryz.prog 138 #[.slice none 0 0, .int .i64 n] w fun e w' => (∃ v, e = .returned v ∧ Empty w.heap.size w' v) ∧ Below w.heap.size w w' := by
  rcases Nat.eq_zero_or_pos n with h0 | h0
  · subst h0
    have HE : Hid (Empty w.heap.size w (.slice none 0 0)) := Lib.hid ⟨none, 0, rfl, World.ownsRow_nil _ _ _ _⟩
    go_enter Tryz.func138, Tryz.ntmps138
    go_wp2_with fail
    go_ret
    exact ⟨⟨_, rfl, HE.out⟩, Below.refl _ _⟩
  · obtain ⟨i0, hi, hz0, hz1, hz2⟩ := info_parts Tryz.info5
    have hrz : ∀ ty, (Builtin.append_ #[94, 3] ty #[.slice none 0 0, .int .i64 (n : Int)]).run Tryz.prog w =
        .ok (.slice (some ⟨w.heap.size, 0, none⟩) n (grownCap w n 0 5)) (w.drew.alloc (.cells (#[] ++ Builtin.zeroCells #[.int .u8 0] n ++ Builtin.zeroCells #[.int .u8 0] (grownCap w n 0 5 - n)) 5)) := fun ty => by
      have h := Lib.run_append_grow_zeros (P := Tryz.prog) w 94 3 ty 5 i0 (.int .u8 0) .i64 .i64 Tryz.underlying94 Tryz.underlying3 hi hz0 none 0 0 [] (run_firstCells_none w.drew i0.size 0 0 0) n h0 (by omega) (by omega) (by omega)
        (by rw [hz2]; omega) (by rw [hz2]; exact growslice_fits (by omega) (by omega))
      rw [Nat.zero_add] at h
      exact h
    have hGn := grownCap_ge w n 0 5
    have hGm := grownCap_le_maxLen w n 0 5 (by unfold maxLen; omega)
    generalize grownCap w n 0 5 = G at hrz hGn hGm
    have hcs : (#[] ++ Builtin.zeroCells #[.int .u8 0] n ++ Builtin.zeroCells #[.int .u8 0] (G - n) : Array Value).size = G := by
      rw [Array.size_append, Array.size_append, size_zeroCells, size_zeroCells]; simp; omega
    generalize (#[] ++ Builtin.zeroCells #[.int .u8 0] n ++ Builtin.zeroCells #[.int .u8 0] (G - n) : Array Value) = cs at hrz hcs
    have HE : Hid (Empty w.heap.size (w.drew.alloc (.cells cs 5)) (.slice (some ⟨w.heap.size, 0, none⟩) 0 G)) := Lib.hid ⟨_, _, rfl, rfl, .inr ⟨w.heap.size, G, cs, rfl, Nat.le_refl _, by show (w.heap.push _)[w.heap.size]? = _; simp, Nat.zero_le _, hGm, by omega, rfl⟩⟩
    unfold maxLen at hGm
    clear hcs hi hz0 hz1 hz2
    go_enter Tryz.func138, Tryz.ntmps138
    go_wp2_with (at_builtin; refine Lib.wpList_append_run _ rfl _ _ _ _ rfl _ _ rfl rfl _ _ (hrz _) ?_)
    go_ret
    exact ⟨⟨_, rfl, HE.out⟩, (Below.refl _ _).drew.alloc (Nat.le_refl _) _⟩

/-- The first pieces, one behind the other. -/
def cat (ps : Nat → List Nat) : Nat → List Nat
  | 0 => []
  | i + 1 => cat ps i ++ ps i
def Pcs (w : World) (b o n : Nat) (A : Nat → Option Addr) (L C : Nat → Nat) (ps : Nat → List Nat) : Prop :=
  ∀ r, r < n → w.cell? ⟨b, o + r, none⟩ = some (.slice (A r) (L r) (C r)) ∧ Bys w (A r) (L r) (ps r) ∧ (A r = none → C r = 0) ∧ L r ≤ C r
theorem cat_mono (ps : Nat → List Nat) {i n : Nat} (h : i ≤ n) : (cat ps i).length ≤ (cat ps n).length := by
  induction n with
  | zero => rw [Nat.le_zero.1 h]; exact Nat.le_refl _
  | succ n ih =>
    rcases Nat.lt_or_ge i (n + 1) with h1 | h1
    · refine Nat.le_trans (ih (by omega)) ?_
      show _ ≤ (cat ps n ++ ps n).length
      rw [List.length_append]; omega
    · rw [show i = n + 1 by omega]; exact Nat.le_refl _
theorem cat_dig (ps : Nat → List Nat) {n : Nat} (h : ∀ r, r < n → ∀ x ∈ ps r, x < 256) : ∀ i, i ≤ n → ∀ x ∈ cat ps i, x < 256 := by
  intro i
  induction i with
  | zero => intro _ x hx; cases hx
  | succ i ih => intro hi; exact dig_append (ih (by omega)) (h i (by omega))

structure CatRel (w wr : World) (v : Value) (i : Nat) (ps : Nat → List Nat) : Prop where
  below : Below w.heap.size w wr
  row : ∃ p c, v = .slice p (cat ps i).length c ∧ wr.ownsRow w.heap.size 5 1 (.slice p (cat ps i).length c) (cat ps i).length (u8s (cat ps i))

set_option maxHeartbeats 1600000 in
theorem concat_any (b o n c : Nat) (A : Nat → Option Addr) (L C : Nat → Nat) (ps : Nat → List Nat) (w : World) (hn : n ≤ 9223372036854775807) (hP : Pcs w b o n A L C ps) (hbl : b < w.heap.size) (hT : (cat ps n).length ≤ 1099511627776) :
    Calls Tryz.prog 108 #[.slice (some ⟨b, o, none⟩) n c] w fun e w' => ∃ p c, e = .returned (.slice p (cat ps n).length c) ∧ w'.ownsRow w.heap.size 5 1 (.slice p (cat ps n).length c) (cat ps n).length (u8s (cat ps n)) ∧ Below w.heap.size w w' := by
  obtain ⟨i0, hi, hz0, hz1, hz2⟩ := info_parts Tryz.info5
  have HI := Lib.hid hi
  have HZ0 := Lib.hid hz0
  have HZ1 := Lib.hid hz1
  have HZ2 := Lib.hid hz2
  have HP := Lib.hid hP
  have HT := Lib.hid hT
  clear hP hT hi hz0 hz1 hz2
  go_enter Tryz.func108, Tryz.ntmps108
  go_wp2_with fail
  go_loop [3, 11] (fun sv iv => ∃ i s : Nat, i ≤ n ∧ iv = .int .i64 (i : Int) ∧ sv = .int .i64 (s : Int) ∧ s ≤ 1099511627776 ∧ (cat ps i).length = s) (fun _ iv => n - (intOf iv).toNat)
  case atStart => exact ⟨0, 0, by omega, by go_num, by go_num, by omega, rfl⟩
  case round =>
    obtain ⟨i, s, hin, rfl, rfl, hs40, hs⟩ := hrel
    have HS := Lib.hid hs
    clear hs
    by_cases hlt : i < n
    · obtain ⟨hcell, hBy, _, _⟩ := HP.out i hlt
      have HN : Hid ((cat ps (i + 1)).length = s + L i) := Lib.hid (by show (cat ps i ++ ps i).length = _; rw [List.length_append, HS.out, hBy.len])
      have hN2 : s + L i ≤ 1099511627776 := by rw [← HN.out]; exact Nat.le_trans (cat_mono ps hlt) HT.out
      clear hBy
      generalize L i = l at *
      generalize C i = c1 at *
      generalize A i = a1 at *
      go_wp2_with fail
      go_round
      case rel => exact ⟨i + 1, s + l, by omega, by go_num, by go_num, hN2, HN.out⟩
      case measure => simp [intOf]; omega
    · obtain rfl : i = n := by omega
      go_wp2_with fail
      refine (grow_any s _ hs40).mono ?_
      rintro e w1 ⟨⟨v, rfl, hE⟩, hb⟩
      have H0 : Hid (CatRel w w1 v 0 ps) := Lib.hid ⟨hb, hE⟩
      clear hE hb HS
      go_wp2_with fail
      go_loopw [6, 27] (fun vv iv wr => ∃ k : Nat, k ≤ i ∧ iv = .int .i64 (k : Int) ∧ CatRel w wr vv k ps) (fun _ iv _ => i - (intOf iv).toNat)
      case atStart => exact ⟨0, by omega, by go_num, H0.out⟩
      case round =>
        obtain ⟨k, hk, rfl, hr⟩ := hrel
        clear H0
        by_cases hlt : k < i
        · obtain ⟨hcell0, hBy0, hA0, hLC⟩ := HP.out k hlt
          obtain ⟨hbel, p, c2, rfl, hrow⟩ := hr
          have hcell := (hbel.cell (p := ⟨b, o + k, none⟩) hbl).trans hcell0
          have HBy := Lib.hid (hBy0.below hbel)
          have HA0 := Lib.hid hA0
          have HB := Lib.hid hbel
          have HE := Lib.hid (show cat ps (k + 1) = cat ps k ++ ps k from rfl)
          have hN2 : (cat ps k).length + L k ≤ 1099511627776 := by
            have h1 : (cat ps (k + 1)).length = (cat ps k).length + L k := by rw [HE.out, List.length_append, hBy0.len]
            rw [← h1]; exact Nat.le_trans (cat_mono ps hlt) HT.out
          have HPL : Hid ((ps k).length = L k) := Lib.hid hBy0.len
          have HR := Lib.hid hrow
          clear hbel hrow hcell0 hBy0 hA0
          obtain ⟨l, HL⟩ : ∃ l, Hid ((cat ps k).length = l) := ⟨_, Lib.hid rfl⟩
          rw [HL.out] at HR hN2 ⊢
          generalize hli : L k = m at *
          generalize hci : C k = c1 at *
          clear hli hci
          cases hA : A k with
          | none =>
            rw [hA] at hcell HBy
            obtain rfl : c1 = 0 := HA0.out hA
            obtain rfl : m = 0 := by omega
            clear hA HA0
            have HN : Hid (CatRel w wr (.slice p l c2) (k + 1) ps) := Lib.hid ⟨HB.out, p, c2, by rw [HE.out, HBy.out.nil_, List.append_nil, HL.out], by rw [HE.out, HBy.out.nil_, List.append_nil, HL.out]; exact HR.out⟩
            have hown := HR.out
            go_wp2_with (at_builtin; refine wpList_append_own_none rfl _ _ 94 rfl w.heap.size 5 i0 1 Tryz.underlying94 HI.out _ l _ rfl hown rfl ?_)
            clear hown
            go_wp2_with fail
            go_roundw
            case rel => exact ⟨k + 1, by omega, by go_num, HN.out⟩
            case measure => simp [intOf]; omega
          | some ad =>
            rw [hA] at hcell HBy
            clear hA HA0
            have KN : Hid (∀ j u, (u8s (ps k))[j]? = some u → wr.cell? (ad.add j) = some u) := Lib.hid (by
              rcases Nat.eq_zero_or_pos m with h0 | h0
              · subst h0
                rw [HBy.out.nil_]
                intro j u hj
                cases hj
              · obtain ⟨ad', e, h⟩ := HBy.out.cells h0
                cases e
                exact h)
            have KL : Hid ((u8s (ps k)).length = m * 1) := Lib.hid (by rw [u8s_len, HPL.out, Nat.mul_one])
            have K63 : Hid (l + m ≤ maxLen) := Lib.hid (by unfold maxLen; omega)
            have KB : Hid ((l + m) * 1 ≤ 140737488355328) := Lib.hid (by omega)
            have KE : Hid (w.heap.size ≤ wr.heap.size) := Lib.hid HB.out.size
            have hown := HR.out
            go_wp2_with (at_builtin; refine wpList_append_own _ rfl _ _ 94 rfl w.heap.size 5 i0 (.int .u8 0) 1 1 Tryz.underlying94 HI.out HZ0.out HZ1.out HZ2.out rfl (by decide) _ l _ rfl hown ad m c1 (u8s (ps k)) rfl KL.out KN.out (u8s_one _) K63.out KB.out KE.out ?_)
            intro v2 w2 hown2 hgrow _
            obtain ⟨p2, c3, rfl⟩ := own_slice hown2
            have HN : Hid (CatRel w w2 (.slice p2 (l + m) c3) (k + 1) ps) := Lib.hid ⟨HB.out.grown hgrow HB.out.size (fun j e => (HR.out.lt j e).1), p2, c3, by rw [HE.out, List.length_append, HL.out, HPL.out], by rw [HE.out, List.length_append, HL.out, HPL.out, u8s_append]; exact hown2⟩
            clear hown hown2 hgrow KN KL K63 KB KE HR
            go_wp2_with fail
            go_roundw
            case rel => exact ⟨k + 1, by omega, by go_num, HN.out⟩
            case measure => simp [intOf]; omega
        · obtain rfl : k = i := by omega
          obtain ⟨hbel, p, c2, rfl, hrow⟩ := hr
          have HB := Lib.hid hbel
          have HR := Lib.hid hrow
          clear hbel hrow
          obtain ⟨l, HL⟩ : ∃ l, Hid ((cat ps k).length = l) := ⟨_, Lib.hid rfl⟩
          rw [HL.out] at HR ⊢
          go_wp2_with fail
          go_ret
          rw [HL.out]
          exact ⟨p, c2, rfl, HR.out, HB.out⟩
end Go.Proofs.YthcnofdihigohaaGreat
end
section
/- What slices.Concat of two pieces of bytes returns. -/
namespace Go.Proofs.YthcnofdihigohaaGreat
open Go.RowKit

/-- A slice of the call's own that holds these bytes. -/
def Made (base : Nat) (w' : World) (v : Value) (bs : List Nat) : Prop := ∃ p c, v = .slice p bs.length c ∧ w'.ownsRow base 5 1 (.slice p bs.length c) bs.length (u8s bs)
theorem own_base {w : World} {base base2 n : Nat} {v : Value} {xs : List Value} (hb : base2 ≤ base) (h : w.ownsRow base 5 1 v n xs) : w.ownsRow base2 5 1 v n xs := by
  obtain ⟨h1, h2⟩ := h
  refine ⟨h1, ?_⟩
  rcases h2 with h2 | ⟨g, cap, cur, e, hbg, hr⟩
  · exact .inl h2
  · exact .inr ⟨g, cap, cur, e, Nat.le_trans hb hbg, hr⟩
def pick2 {α : Type} (x y : α) : Nat → α
  | 0 => x
  | _ => y
structure Fit (p : Option Addr) (n c : Nat) : Prop where
  cap : n ≤ c
  nil_ : p = none → c = 0
theorem two_pcs (w : World) (p q : Option Addr) (n c m d : Nat) (xs ys : List Nat) (h1 : Bys w p n xs) (h2 : Bys w q m ys) (f1 : Fit p n c) (f2 : Fit q m d) :
    Pcs (w.alloc (.cells #[.slice p n c, .slice q m d] 94)) w.heap.size 0 2 (pick2 p q) (pick2 n m) (pick2 c d) (pick2 xs ys) := by
  have hb : Below w.heap.size w (w.alloc (.cells #[.slice p n c, .slice q m d] 94)) := (Below.refl _ _).alloc (Nat.le_refl _) _
  intro r hr
  rcases (show r = 0 ∨ r = 1 by omega) with rfl | rfl
  · exact ⟨World.cell?_alloc_new w _ _ 0, h1.below hb, f1.nil_, f1.cap⟩
  · exact ⟨World.cell?_alloc_new w _ _ 1, h2.below hb, f2.nil_, f2.cap⟩
theorem cat_two (xs ys : List Nat) : cat (pick2 xs ys) 2 = xs ++ ys := by show ([] ++ xs) ++ ys = _; rw [List.nil_append]
/-- Two pieces that lie in a world in which what lay lies as it lay. -/
theorem two_made (w w1 : World) (p q : Option Addr) (n c m d : Nat) (xs ys : List Nat) (hb : Below w.heap.size w w1) (h1 : Bys w p n xs) (h2 : Bys w q m ys) (f1 : Fit p n c) (f2 : Fit q m d) (hs : n + m ≤ 1099511627776) :
    Calls Tryz.prog 108 #[.slice (some ⟨w1.heap.size, 0, none⟩) 2 2] (w1.alloc (.cells #[.slice p n c, .slice q m d] 94)) fun e w' => (∃ v, e = .returned v ∧ Made w.heap.size w' v (xs ++ ys)) ∧ Below w.heap.size w w' := by
  have hP := two_pcs w1 p q n c m d xs ys (h1.below hb) (h2.below hb) f1 f2
  refine (concat_any w1.heap.size 0 2 2 _ _ _ _ _ (by omega) hP (by simp) (by rw [cat_two, List.length_append, h1.len, h2.len]; exact hs)).mono ?_
  rw [cat_two]
  rintro e w' ⟨p', c', rfl, ho, hb2⟩
  refine ⟨⟨_, rfl, p', c', rfl, ?_⟩, ?_⟩
  · exact own_base (by have := hb.size; simp; omega) ho
  · exact (hb.alloc hb.size _).trans (hb2.mono (by have := hb.size; simp; omega))
end Go.Proofs.YthcnofdihigohaaGreat
end
section
/- A disk as plain data: what each call makes of it. -/
namespace Go.Proofs.YthcnofdihigohaaGreat

/-- A disk: its sectors without what waits; the writes that wait; its fuse (-1: none); is it down; how much was done. -/
structure Dsk where
  out : List (List Nat)
  row : List (Nat × List Nat)
  fuse : Int
  down : Bool
  done : Nat

abbrev Wr := Nat × List Nat
def wr (l : List Wr) (k : Nat) : Wr := l.getD k (0, [])
/-- The sectors behind the first k of some writes. -/
def appN (l : List Wr) (L : List (List Nat)) : Nat → List (List Nat)
  | 0 => L
  | k + 1 => (appN l L k).set (wr l k).1 (wr l k).2
def appAll (l : List Wr) (L : List (List Nat)) : List (List Nat) := appN l L l.length
def Dsk.last (m : Dsk) : List (List Nat) := appAll m.row m.out
theorem appN_len (l : List Wr) (L : List (List Nat)) (k : Nat) : (appN l L k).length = L.length := by
  induction k with
  | zero => rfl
  | succ k ih => show ((appN l L k).set _ _).length = _; rw [List.length_set, ih]
theorem last_len (m : Dsk) : m.last.length = m.out.length := appN_len _ _ _
theorem wr_left (l r : List Wr) (k : Nat) (h : k < l.length) : wr (l ++ r) k = wr l k := by
  unfold wr; rw [List.getD_eq_getElem?_getD, List.getD_eq_getElem?_getD, List.getElem?_append_left h]
theorem wr_last (l : List Wr) (x : Wr) : wr (l ++ [x]) l.length = x := by
  unfold wr; rw [List.getD_eq_getElem?_getD, List.getElem?_append_right (Nat.le_refl _)]; simp
theorem appN_left (l r : List Wr) (L : List (List Nat)) (k : Nat) (h : k ≤ l.length) : appN (l ++ r) L k = appN l L k := by
  induction k with
  | zero => rfl
  | succ k ih => show ((appN (l ++ r) L k).set _ _) = (appN l L k).set _ _; rw [ih (by omega), wr_left _ _ _ (by omega)]
theorem appAll_snoc (l : List Wr) (x : Wr) (L : List (List Nat)) : appAll (l ++ [x]) L = (appAll l L).set x.1 x.2 := by
  unfold appAll
  rw [List.length_append]
  show (appN (l ++ [x]) L l.length).set _ _ = _
  rw [appN_left _ _ _ _ (Nat.le_refl _), wr_last]
theorem appAll_nil (L : List (List Nat)) : appAll [] L = L := rfl

/-- How much of it comes out, laid on what was there. -/
def tear (at_ : Nat) (new old : List Nat) : List Nat := new.take at_ ++ old.drop at_
def sec (L : List (List Nat)) (i : Nat) : List Nat := L.getD i []
theorem tear_len (a : Nat) (x y : List Nat) (hx : x.length = 128) (hy : y.length = 128) (ha : a ≤ 128) : (tear a x y).length = 128 := by
  unfold tear; rw [List.length_append, List.length_take, List.length_drop]; omega
theorem tear_all (x y : List Nat) (hx : x.length = 128) (hy : y.length = 128) : tear 128 x y = x := by
  unfold tear; rw [List.take_of_length_le (by omega), List.drop_of_length_le (by omega), List.append_nil]
theorem tear_dig (a : Nat) (x y : List Nat) (hx : ∀ d ∈ x, d < 256) (hy : ∀ d ∈ y, d < 256) : ∀ d ∈ tear a x y, d < 256 := fun d hd =>
  (List.mem_append.1 hd).elim (fun h => hx d (List.mem_of_mem_take h)) (fun h => hy d (List.mem_of_mem_drop h))

/-- How far of a write comes out at a failure: none: it doesn't. -/
def outb (keep : Nat → Bool) (torn : Int) (at_ : Nat) (k : Nat) : Option Nat := if (k : Int) = torn then some at_ else if keep k then some 128 else none
def bring (L : List (List Nat)) (x : Wr) : Option Nat → List (List Nat)
  | none => L
  | some a => L.set x.1 (tear a x.2 (sec L x.1))
/-- The sectors behind the first k writes of a failure. -/
def failN (l : List Wr) (L : List (List Nat)) (f : Nat → Option Nat) : Nat → List (List Nat)
  | 0 => L
  | k + 1 => bring (failN l L f k) (wr l k) (f k)
theorem bring_len (L : List (List Nat)) (x : Wr) (o : Option Nat) : (bring L x o).length = L.length := by
  cases o with
  | none => rfl
  | some a => show (L.set _ _).length = _; rw [List.length_set]
theorem failN_len (l : List Wr) (L : List (List Nat)) (f : Nat → Option Nat) (k : Nat) : (failN l L f k).length = L.length := by
  induction k with
  | zero => rfl
  | succ k ih => show (bring _ _ _).length = _; rw [bring_len, ih]

/-- A fuse that burns. -/
def burnt (m : Dsk) : Dsk := { m with down := true }
def burns (m : Dsk) : Dsk := { m with fuse := if m.fuse = -1 then -1 else m.fuse - 1, done := m.done + 1 }
def Dsk.has (m : Dsk) (i : Int) : Bool := decide (0 ≤ i) && decide (i < m.out.length)
/-- A write's answer, and what it leaves. -/
def putE (m : Dsk) (i : Int) (s : List Nat) : Int :=
  if m.down then 9 else if m.has i = false then 7 else if s.length ≠ 128 then 1 else if m.fuse = 0 then 9 else 0
def putM (m : Dsk) (i : Int) (s : List Nat) : Dsk :=
  if m.down then m else if m.has i = false then m else if s.length ≠ 128 then m else if m.fuse = 0 then burnt m else { burns m with row := m.row ++ [(i.toNat, s)] }
def barE (m : Dsk) : Int := if m.down then 9 else if m.fuse = 0 then 9 else 0
def barM (m : Dsk) : Dsk := if m.down then m else if m.fuse = 0 then burnt m else { burns m with out := m.last, row := [] }
def fuseM (m : Dsk) (n : Int) : Dsk := { m with fuse := max n (-1) }
def cut128 (n : Int) : Nat := (min (max n 0) 128).toNat
theorem cut128_le (n : Int) : cut128 n ≤ 128 := by unfold cut128; omega
def failM (m : Dsk) (keep : Nat → Bool) (torn n : Int) : Dsk :=
  { m with out := failN m.row m.out (outb keep torn (cut128 n)) m.row.length, row := [], fuse := -1, down := true }
def startM (m : Dsk) : Dsk := if m.down then { m with row := [], fuse := -1, down := false } else m
def readE (m : Dsk) (i : Int) : Int := if m.down then 9 else if m.has i = false then 7 else 0
def readS (m : Dsk) (i : Int) : List Nat := if m.down then [] else if m.has i = false then [] else sec m.last i.toNat
def outS (m : Dsk) (i : Int) : List Nat := if m.has i then sec m.out i.toNat else []
def newM (n : Nat) : Dsk := ⟨List.replicate n (List.replicate 128 0), [], -1, false, 0⟩

/-- A disk's sectors and writes are of 128 bytes; its fuse is one. -/
structure Ok (m : Dsk) : Prop where
  out : ∀ s ∈ m.out, s.length = 128 ∧ ∀ d ∈ s, d < 256
  row : ∀ x ∈ m.row, x.1 < m.out.length ∧ x.2.length = 128 ∧ ∀ d ∈ x.2, d < 256
  fuse0 : -1 ≤ m.fuse
  fuse1 : m.fuse ≤ 9223372036854775807
theorem has_true {m : Dsk} {i : Int} (h0 : 0 ≤ i) (h1 : i < m.out.length) : m.has i = true := by unfold Dsk.has; simp [h0, h1]
theorem has_low {m : Dsk} {i : Int} (h0 : i < 0) : m.has i = false := by unfold Dsk.has; simp; omega
theorem has_high {m : Dsk} {i : Int} (h0 : (m.out.length : Int) ≤ i) : m.has i = false := by unfold Dsk.has; simp; omega
theorem sec_mem {L : List (List Nat)} {i : Nat} (h : i < L.length) : sec L i ∈ L := by
  unfold sec; rw [List.getD_eq_getElem?_getD, List.getElem?_eq_getElem h]; exact List.getElem_mem h
theorem sec_set {L : List (List Nat)} {i : Nat} (s : List Nat) (h : i < L.length) (j : Nat) : sec (L.set i s) j = if i = j then s else sec L j := by
  unfold sec
  rw [List.getD_eq_getElem?_getD, List.getD_eq_getElem?_getD, List.getElem?_set]
  split
  · simp
  · rfl
theorem wr_mem {l : List Wr} {k : Nat} (h : k < l.length) : wr l k ∈ l := by
  unfold wr; rw [List.getD_eq_getElem?_getD, List.getElem?_eq_getElem h]; exact List.getElem_mem h
def Secs128 (L : List (List Nat)) : Prop := ∀ s ∈ L, s.length = 128 ∧ ∀ d ∈ s, d < 256
def Rows128 (n : Nat) (l : List Wr) : Prop := ∀ x ∈ l, x.1 < n ∧ x.2.length = 128 ∧ ∀ d ∈ x.2, d < 256
theorem Secs128.set {L : List (List Nat)} (h : Secs128 L) (i : Nat) {s : List Nat} (hs : s.length = 128 ∧ ∀ d ∈ s, d < 256) : Secs128 (L.set i s) := fun x hx =>
  (List.mem_or_eq_of_mem_set hx).elim (h x) (fun e => e ▸ hs)
theorem Secs128.appN {L : List (List Nat)} {l : List Wr} (h : Secs128 L) (hl : Rows128 L.length l) : ∀ k, k ≤ l.length → Secs128 (appN l L k)
  | 0, _ => h
  | k + 1, hk => (Secs128.appN h hl k (by omega)).set _ (hl _ (wr_mem (by omega))).2
theorem Secs128.bring {L : List (List Nat)} {x : Wr} (h : Secs128 L) (hx : x.1 < L.length ∧ x.2.length = 128 ∧ ∀ d ∈ x.2, d < 256) {o : Option Nat} (ho : ∀ a, o = some a → a ≤ 128) : Secs128 (bring L x o) := by
  cases o with
  | none => exact h
  | some a =>
    have h1 := h _ (sec_mem hx.1)
    exact h.set _ ⟨tear_len _ _ _ hx.2.1 h1.1 (ho a rfl), tear_dig _ _ _ hx.2.2 h1.2⟩
theorem bits_le {keep : Nat → Bool} {torn : Int} {a : Nat} (ha : a ≤ 128) (k : Nat) : ∀ b, outb keep torn a k = some b → b ≤ 128 := by
  intro b h
  unfold outb at h
  split at h
  · cases h; exact ha
  · split at h
    · cases h; omega
    · cases h
theorem Secs128.failN {L : List (List Nat)} {l : List Wr} (h : Secs128 L) (hl : Rows128 L.length l) {f : Nat → Option Nat} (hf : ∀ k b, f k = some b → b ≤ 128) : ∀ k, k ≤ l.length → Secs128 (failN l L f k)
  | 0, _ => h
  | k + 1, hk => (Secs128.failN h hl hf k (by omega)).bring (by rw [failN_len]; exact hl _ (wr_mem (by omega))) (hf k)
/-- Where all of each comes out, it is what a barrier brings. -/
theorem failN_all {L : List (List Nat)} {l : List Wr} (h : Secs128 L) (hl : Rows128 L.length l) {f : Nat → Option Nat} (hf : ∀ k, k < l.length → f k = some 128) : ∀ k, k ≤ l.length → Go.Proofs.YthcnofdihigohaaGreat.failN l L f k = Go.Proofs.YthcnofdihigohaaGreat.appN l L k
  | 0, _ => rfl
  | k + 1, hk => by
    show Go.Proofs.YthcnofdihigohaaGreat.bring (Go.Proofs.YthcnofdihigohaaGreat.failN l L f k) _ _ = (Go.Proofs.YthcnofdihigohaaGreat.appN l L k).set _ _
    have hx := hl _ (wr_mem (show k < l.length by omega))
    rw [failN_all h hl hf k (by omega), hf k (by omega)]
    show (Go.Proofs.YthcnofdihigohaaGreat.appN l L k).set _ (tear 128 _ _) = _
    rw [tear_all _ _ hx.2.1 (h.appN hl k (by omega) _ (sec_mem (by rw [appN_len]; exact hx.1))).1]
theorem Ok.last {m : Dsk} (h : Ok m) : Secs128 m.last := Secs128.appN h.out h.row _ (Nat.le_refl _)
theorem Ok.burnt {m : Dsk} (h : Ok m) : Ok (burnt m) := ⟨h.out, h.row, h.fuse0, h.fuse1⟩
theorem Ok.burns {m : Dsk} (h : Ok m) (_h0 : m.fuse ≠ 0) : Ok (burns m) := ⟨h.out, h.row, by
    have := h.fuse0
    show (-1 : Int) ≤ if m.fuse = -1 then -1 else m.fuse - 1
    split <;> omega, by
    have := h.fuse1
    show (if m.fuse = -1 then -1 else m.fuse - 1) ≤ (9223372036854775807 : Int)
    split <;> omega⟩
theorem Ok.put {m : Dsk} (h : Ok m) (i : Int) (s : List Nat) (hs : ∀ d ∈ s, d < 256) : Ok (putM m i s) := by
  unfold putM
  split
  · exact h
  · split
    · exact h
    · split
      · exact h
      · split
        · exact h.burnt
        · rename_i h1 h2 h3 h4
          have hb := h.burns h4
          have h5 : m.has i = true := by simpa using h2
          unfold Dsk.has at h5
          simp only [Bool.and_eq_true, decide_eq_true_eq] at h5
          refine ⟨h.out, fun x hx => ?_, hb.fuse0, hb.fuse1⟩
          rcases List.mem_append.1 hx with hx | hx
          · exact h.row x hx
          · obtain rfl := List.mem_singleton.1 hx
            exact ⟨show i.toNat < m.out.length by omega, by simpa using h3, hs⟩
theorem Ok.bar {m : Dsk} (h : Ok m) : Ok (barM m) := by
  unfold barM
  split
  · exact h
  · split
    · exact h.burnt
    · rename_i h1 h2
      have hb := h.burns h2
      exact ⟨h.last, fun x hx => (by cases hx), hb.fuse0, hb.fuse1⟩
theorem Ok.fuse {m : Dsk} (h : Ok m) {n : Int} (hn : n ≤ 9223372036854775807) : Ok (fuseM m n) := ⟨h.out, h.row, by show (-1 : Int) ≤ max n (-1); omega, by show max n (-1) ≤ (9223372036854775807 : Int); omega⟩
theorem Ok.fail {m : Dsk} (h : Ok m) (keep : Nat → Bool) (torn n : Int) : Ok (failM m keep torn n) :=
  ⟨Secs128.failN h.out h.row (fun k b hb => bits_le (cut128_le n) k b hb) _ (Nat.le_refl _), fun x hx => (by cases hx), by show (-1 : Int) ≤ -1; omega, by show (-1 : Int) ≤ _; omega⟩
theorem Ok.start {m : Dsk} (h : Ok m) : Ok (startM m) := by
  unfold startM
  split
  · exact ⟨h.out, fun x hx => (by cases hx), by show (-1 : Int) ≤ -1; omega, by show (-1 : Int) ≤ _; omega⟩
  · exact h
theorem Ok.new (n : Nat) : Ok (newM n) := ⟨fun s hs => by
  obtain rfl := (List.mem_replicate.1 hs).2
  exact ⟨by simp, fun d hd => by obtain rfl := (List.mem_replicate.1 hd).2; omega⟩, fun x hx => (by cases hx), by show (-1 : Int) ≤ -1; omega, by show (-1 : Int) ≤ _; omega⟩
end Go.Proofs.YthcnofdihigohaaGreat
end
