/- Sets of small numbers as truths: their bytes, the next number, the runs. -/
import Derived.Test.YtamfkglkgfggaaaBytes
namespace Go.Proofs.Ytamfkglkgfggaaa

/-- So many truths from a place on, as a number. -/
def bsum (f : Nat → Bool) (a : Nat) : Nat → Nat
  | 0 => 0
  | k + 1 => 2 ^ k * (f (a + k)).toNat + bsum f a k
theorem bsum_lt (f : Nat → Bool) (a k : Nat) : bsum f a k < 2 ^ k := by
  induction k with
  | zero => simp [bsum]
  | succ k ih =>
    show 2 ^ k * (f (a + k)).toNat + bsum f a k < 2 ^ (k + 1)
    rw [Nat.pow_succ]
    cases f (a + k)
    · simp; omega
    · simp; omega
theorem bsum_bit (f : Nat → Bool) (a k i : Nat) : (bsum f a k).testBit i = (decide (i < k) && f (a + i)) := by
  induction k with
  | zero => simp [bsum]
  | succ k ih =>
    show (2 ^ k * (f (a + k)).toNat + bsum f a k).testBit i = _
    rw [Nat.testBit_two_pow_mul_add _ (bsum_lt f a k)]
    by_cases h : i < k
    · rw [if_pos h, ih, decide_eq_true h, decide_eq_true (show i < k + 1 by omega)]
    · rw [if_neg h]
      by_cases h2 : i = k
      · subst h2
        rw [Nat.sub_self, decide_eq_true (Nat.lt_succ_self _)]
        cases f (a + i) <;> simp
      · rw [decide_eq_false (show ¬ i < k + 1 by omega)]
        obtain ⟨j, hj⟩ : ∃ j, i - k = j + 1 := ⟨i - k - 1, by omega⟩
        rw [hj]
        cases f (a + k) <;> simp [Nat.testBit_succ]
/-- Eight truths as a byte. -/
def byt (f : Nat → Bool) (j : Nat) : Nat := bsum f (8 * j) 8
theorem byt_lt (f : Nat → Bool) (j : Nat) : byt f j < 256 := bsum_lt f (8 * j) 8
theorem byt_bit (f : Nat → Bool) (j i : Nat) : (byt f j).testBit i = (decide (i < 8) && f (8 * j + i)) := bsum_bit f (8 * j) 8 i
theorem byt_congr {f g : Nat → Bool} {j : Nat} (h : ∀ i, i < 8 → f (8 * j + i) = g (8 * j + i)) : byt f j = byt g j := by
  apply Nat.eq_of_testBit_eq
  intro i
  rw [byt_bit, byt_bit]
  by_cases hi : i < 8
  · rw [h i hi]
  · rw [decide_eq_false hi]; rfl
theorem byt_get (f : Nat → Bool) (i : Nat) : (byt f (i / 8)).testBit (i % 8) = f i := by
  rw [byt_bit, decide_eq_true (Nat.mod_lt _ (by decide)), Bool.true_and, Nat.div_add_mod]
theorem byt_inj {f g : Nat → Bool} {j : Nat} (h : byt f j = byt g j) : ∀ i, i < 8 → f (8 * j + i) = g (8 * j + i) := by
  intro i hi
  have h1 := byt_bit f j i
  have h2 := byt_bit g j i
  rw [h, decide_eq_true hi, Bool.true_and] at h1
  rw [decide_eq_true hi, Bool.true_and] at h2
  rw [← h1, h2]
/-- Truths with another one at a place. -/
def upd (f : Nat → Bool) (i : Nat) (v : Bool) : Nat → Bool := fun j => if j = i then v else f j
theorem upd_same (f : Nat → Bool) (i : Nat) (v : Bool) : upd f i v i = v := if_pos rfl
theorem upd_other (f : Nat → Bool) (i j : Nat) (v : Bool) (h : j ≠ i) : upd f i v j = f j := if_neg h
theorem byt_or (f : Nat → Bool) (i : Nat) : byt f (i / 8) ||| 2 ^ (i % 8) = byt (upd f i true) (i / 8) := by
  apply Nat.eq_of_testBit_eq
  intro k
  rw [Nat.testBit_or, byt_bit, byt_bit, Nat.testBit_two_pow]
  unfold upd
  by_cases hk : k < 8
  · rw [decide_eq_true hk, Bool.true_and, Bool.true_and]
    by_cases h : i % 8 = k
    · rw [decide_eq_true h, if_pos (by omega), Bool.or_true]
    · rw [decide_eq_false h, if_neg (by omega), Bool.or_false]
  · rw [decide_eq_false hk, decide_eq_false (show ¬ i % 8 = k by omega)]; rfl
theorem byt_andNot (f : Nat → Bool) (i : Nat) : byt f (i / 8) &&& (255 - 2 ^ (i % 8)) = byt (upd f i false) (i / 8) := by
  have h255 : ∀ (r : Fin 8) (k : Fin 8), (255 - 2 ^ r.val).testBit k.val = !decide (r.val = k.val) := by decide
  apply Nat.eq_of_testBit_eq
  intro k
  rw [Nat.testBit_and, byt_bit, byt_bit]
  unfold upd
  by_cases hk : k < 8
  · rw [decide_eq_true hk, Bool.true_and, Bool.true_and, h255 ⟨i % 8, Nat.mod_lt _ (by decide)⟩ ⟨k, hk⟩]
    by_cases h : i % 8 = k
    · rw [decide_eq_true h, if_pos (by omega)]; simp
    · rw [decide_eq_false h, if_neg (by omega)]; simp
  · rw [decide_eq_false hk]; rfl
theorem byt_upd_far (f : Nat → Bool) (i j : Nat) (v : Bool) (h : j ≠ i / 8) : byt (upd f i v) j = byt f j :=
  byt_congr fun k hk => upd_other _ _ _ _ (by omega)
theorem byt_and (f : Nat → Bool) (i : Nat) : byt f (i / 8) &&& 2 ^ (i % 8) = (f i).toNat * 2 ^ (i % 8) := by
  have h := byt_get f i
  rw [Nat.testBit_eq_decide_div_mod_eq] at h
  rw [nat_bit]
  cases e : f i
  · rw [e] at h; have := of_decide_eq_false h; rw [show byt f (i / 8) / 2 ^ (i % 8) % 2 = 0 by omega]; rfl
  · rw [e] at h; rw [of_decide_eq_true h]; rfl
/-- The truths of some bytes. -/
def trs (bs : List Nat) : Nat → Bool := fun i => (bs.getD (i / 8) 0).testBit (i % 8)
theorem byt_trs (bs : List Nat) (j : Nat) (h : bs.getD j 0 < 256) : byt (trs bs) j = bs.getD j 0 := by
  apply Nat.eq_of_testBit_eq
  intro k
  rw [byt_bit]
  unfold trs
  by_cases hk : k < 8
  · rw [decide_eq_true hk, Bool.true_and, show (8 * j + k) / 8 = j by omega, show (8 * j + k) % 8 = k by omega]
  · rw [decide_eq_false hk, Bool.false_and]
    exact (Nat.testBit_lt_two_pow (Nat.lt_of_lt_of_le h (show 2 ^ 8 ≤ 2 ^ k from Nat.pow_le_pow_right (by omega) (by omega)))).symm
/-- How many bytes a size needs. -/
def need (n : Nat) : Nat := (n + 7) / 8
/-- The bytes of truths. -/
def rowF (f : Nat → Bool) (m : Nat) : List Nat := (List.range m).map (byt f)
theorem rowF_len (f : Nat → Bool) (m : Nat) : (rowF f m).length = m := by simp [rowF]
theorem rowF_getD (f : Nat → Bool) (m j : Nat) (h : j < m) : (rowF f m).getD j 0 = byt f j := by
  unfold rowF; rw [List.getD_eq_getElem?_getD, List.getElem?_map, List.getElem?_range h]; rfl
theorem rowF_dig (f : Nat → Bool) (m : Nat) : ∀ x ∈ rowF f m, x < 256 := by
  intro x hx
  obtain ⟨j, _, rfl⟩ := List.mem_map.1 hx
  exact byt_lt f j
theorem getD_ext {a b : List Nat} (hl : a.length = b.length) (h : ∀ j, j < a.length → a.getD j 0 = b.getD j 0) : a = b := by
  apply List.ext_getElem hl
  intro j h1 h2
  have := h j h1
  rwa [List.getD_eq_getElem?_getD, List.getD_eq_getElem?_getD, List.getElem?_eq_getElem h1, List.getElem?_eq_getElem h2] at this
theorem rowF_upd (f : Nat → Bool) (m i : Nat) (v : Bool) : (rowF f m).set (i / 8) (byt (upd f i v) (i / 8)) = rowF (upd f i v) m := by
  refine getD_ext (by simp [rowF_len]) fun j hj => ?_
  rw [List.length_set, rowF_len] at hj
  rw [rowF_getD _ _ _ hj, List.getD_eq_getElem?_getD, List.getElem?_set]
  by_cases h : i / 8 = j
  · subst h; simp [rowF_len, hj]
  · rw [if_neg h, ← List.getD_eq_getElem?_getD, rowF_getD _ _ _ hj, byt_upd_far _ _ _ _ (Ne.symm h)]
theorem rowF_congr {f g : Nat → Bool} {m : Nat} (h : ∀ i, i < 8 * m → f i = g i) : rowF f m = rowF g m := by
  refine getD_ext (by simp [rowF_len]) fun j hj => ?_
  rw [rowF_len] at hj
  rw [rowF_getD _ _ _ hj, rowF_getD _ _ _ hj]
  exact byt_congr fun i hi => h _ (by omega)
theorem rowF_inj {f g : Nat → Bool} {m : Nat} (h : rowF f m = rowF g m) : ∀ i, i < 8 * m → f i = g i := by
  intro i hi
  have h1 := rowF_getD f m (i / 8) (by omega)
  rw [h, rowF_getD g m (i / 8) (by omega)] at h1
  have := byt_inj h1 (i % 8) (Nat.mod_lt _ (by decide))
  rw [Nat.div_add_mod] at this
  exact this.symm
theorem rowF_trs {bs : List Nat} {m : Nat} (hl : bs.length = m) (hd : ∀ x ∈ bs, x < 256) : rowF (trs bs) m = bs := by
  refine getD_ext (by rw [rowF_len, hl]) fun j hj => ?_
  rw [rowF_len] at hj
  rw [rowF_getD _ _ _ hj]
  refine byt_trs bs j ?_
  rw [List.getD_eq_getElem?_getD, List.getElem?_eq_getElem (by omega)]
  exact hd _ (List.getElem_mem _)
theorem trs_rowF {f : Nat → Bool} {m i : Nat} (h : i < 8 * m) : trs (rowF f m) i = f i := by
  unfold trs
  rw [rowF_getD _ _ _ (by omega), byt_get]
theorem trs_far {bs : List Nat} {i : Nat} (h : 8 * bs.length ≤ i) : trs bs i = false := by
  unfold trs
  rw [List.getD_eq_getElem?_getD, List.getElem?_eq_none (by omega)]; simp
/-- Only numbers below the size. -/
def Sub (n : Nat) (f : Nat → Bool) : Prop := ∀ i, n ≤ i → f i = false
/-- What of truths is below a size. -/
def cut (n : Nat) (f : Nat → Bool) : Nat → Bool := fun i => decide (i < n) && f i
theorem cut_sub (n : Nat) (f : Nat → Bool) : Sub n (cut n f) := fun i h => by unfold cut; rw [decide_eq_false (by omega)]; rfl
theorem cut_of {n : Nat} {f : Nat → Bool} (h : Sub n f) : cut n f = f := by
  funext i
  unfold cut
  by_cases hi : i < n
  · rw [decide_eq_true hi, Bool.true_and]
  · rw [decide_eq_false hi, h i (by omega)]; rfl
theorem sub_ext {n : Nat} {f g : Nat → Bool} (hf : Sub n f) (hg : Sub n g) (h : ∀ i, i < n → f i = g i) : f = g := by
  funext i
  by_cases hi : i < n
  · exact h i hi
  · rw [hf i (by omega), hg i (by omega)]
theorem Sub.upd {n : Nat} {f : Nat → Bool} (h : Sub n f) {i : Nat} (hi : i < n) (v : Bool) : Sub n (upd f i v) := fun j hj => by rw [upd_other _ _ _ _ (by omega)]; exact h j hj

/-- The least place from some on where there is a truth, within so many. -/
def nx (h : Nat → Bool) : Nat → Nat → Option Nat
  | 0, _ => none
  | k + 1, i => if h i then some i else nx h k (i + 1)
/-- .. below a size. -/
def nxt (h : Nat → Bool) (n i : Nat) : Option Nat := nx h (n - i) i
/-- As a number: -1 if there is none. -/
def num : Option Nat → Int
  | none => -1
  | some j => (j : Int)
theorem nx_some {h : Nat → Bool} {k i j : Nat} (h1 : i ≤ j) (h2 : j < i + k) (h3 : h j = true) (h4 : ∀ x, i ≤ x → x < j → h x = false) : nx h k i = some j := by
  induction k generalizing i with
  | zero => omega
  | succ k ih =>
    unfold nx
    by_cases e : i = j
    · subst e; rw [if_pos h3]
    · rw [if_neg (by rw [h4 i (Nat.le_refl _) (by omega)]; decide)]
      exact ih (by omega) (by omega) (fun x hx hy => h4 x (by omega) hy)
theorem nx_none {h : Nat → Bool} {k i : Nat} (h4 : ∀ x, i ≤ x → x < i + k → h x = false) : nx h k i = none := by
  induction k generalizing i with
  | zero => rfl
  | succ k ih =>
    unfold nx
    rw [if_neg (by rw [h4 i (Nat.le_refl _) (by omega)]; decide)]
    exact ih (fun x hx hy => h4 x (by omega) (by omega))
theorem nxt_some {h : Nat → Bool} {n i j : Nat} (h1 : i ≤ j) (h2 : j < n) (h3 : h j = true) (h4 : ∀ x, i ≤ x → x < j → h x = false) : nxt h n i = some j := nx_some h1 (by omega) h3 h4
theorem nxt_none {h : Nat → Bool} {n i : Nat} (h4 : ∀ x, i ≤ x → x < n → h x = false) : nxt h n i = none := nx_none fun x hx hy => h4 x hx (by omega)
theorem nx_spec (h : Nat → Bool) (k i : Nat) : (∃ j, nx h k i = some j ∧ i ≤ j ∧ j < i + k ∧ h j = true ∧ ∀ x, i ≤ x → x < j → h x = false) ∨ (nx h k i = none ∧ ∀ x, i ≤ x → x < i + k → h x = false) := by
  induction k generalizing i with
  | zero => exact .inr ⟨rfl, fun x hx hy => by omega⟩
  | succ k ih =>
    unfold nx
    by_cases e : h i = true
    · rw [if_pos e]; exact .inl ⟨i, rfl, Nat.le_refl _, by omega, e, fun x hx hy => by omega⟩
    · rw [if_neg e]
      have e' : h i = false := by simpa using e
      rcases ih (i + 1) with ⟨j, h0, h1, h2, h3, h4⟩ | ⟨h0, h4⟩
      · exact .inl ⟨j, h0, by omega, by omega, h3, fun x hx hy => by
          by_cases hxi : x = i
          · rw [hxi]; exact e'
          · exact h4 x (by omega) hy⟩
      · exact .inr ⟨h0, fun x hx hy => by
          by_cases hxi : x = i
          · rw [hxi]; exact e'
          · exact h4 x (by omega) (by omega)⟩
theorem nxt_spec (h : Nat → Bool) (n i : Nat) : (∃ j, nxt h n i = some j ∧ i ≤ j ∧ j < n ∧ h j = true ∧ ∀ x, i ≤ x → x < j → h x = false) ∨ (nxt h n i = none ∧ ∀ x, i ≤ x → x < n → h x = false) := by
  rcases nx_spec h (n - i) i with ⟨j, h0, h1, h2, h3, h4⟩ | ⟨h0, h4⟩
  · exact .inl ⟨j, h0, h1, by omega, h3, h4⟩
  · exact .inr ⟨h0, fun x hx hy => h4 x hx (by omega)⟩
/-- How many truths there are among the first ones. -/
def cnt (f : Nat → Bool) : Nat → Nat
  | 0 => 0
  | k + 1 => cnt f k + (f k).toNat
theorem cnt_le (f : Nat → Bool) (k : Nat) : cnt f k ≤ k := by
  induction k with
  | zero => exact Nat.le_refl _
  | succ k ih => unfold cnt; cases f k <;> simp <;> omega
theorem cnt_skip {f : Nat → Bool} {i j : Nat} (hij : i ≤ j) (h : ∀ x, i ≤ x → x < j → f x = false) : cnt f j = cnt f i := by
  induction j with
  | zero => have : i = 0 := by omega
            subst this; rfl
  | succ j ih =>
    by_cases e : i = j + 1
    · subst e; rfl
    · show cnt f j + (f j).toNat = _
      rw [h j (by omega) (by omega), ih (by omega) (fun x hx hy => h x hx (by omega))]; rfl
theorem cnt_all {f : Nat → Bool} {i j : Nat} (hij : i ≤ j) (h : ∀ x, i ≤ x → x < j → f x = true) : cnt f j = cnt f i + (j - i) := by
  induction j with
  | zero => have : i = 0 := by omega
            subst this; rfl
  | succ j ih =>
    by_cases e : i = j + 1
    · subst e; simp
    · show cnt f j + (f j).toNat = _
      rw [h j (by omega) (by omega), ih (by omega) (fun x hx hy => h x hx (by omega))]
      simp; omega
end Go.Proofs.Ytamfkglkgfggaaa
