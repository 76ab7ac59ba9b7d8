/- What the document's decoder reads: the fields as it has them. -/
import Derived.Test.YtnjlhallkgacjaaBlk
namespace Go.Proofs.Ytnjlhallkgacjaa
open Go.RowKit

/-- Is the first of eight bytes 64? Are all others 0? -/
def top (s : List Nat) : Bool := decide (s.getD 0 0 = 64) && decide ((s.drop 1).take 7 = List.replicate 7 0)
def rEp (s : List Nat) : Int := if top s = true then 4611686018427387904 else valR (s.take 8)
def toldR (s : List Nat) : Rt := ⟨rEp s, (val ((s.drop 12).take 4) : Int), (val ((s.drop 16).take 4) : Int), (val ((s.drop 20).take 4) : Int)⟩
theorem val_cons (a : Nat) (l : List Nat) : val (a :: l) = a * 256 ^ l.length + val l := by
  suffices ∀ (r : List Nat), val (a :: r.reverse) = a * 256 ^ r.length + val r.reverse by
    have := this l.reverse
    rwa [List.reverse_reverse, List.length_reverse] at this
  intro r
  induction r with
  | nil => show 0 * 256 + a = _; rw [show val ([] : List Nat).reverse = 0 from rfl]; simp
  | cons b r ih =>
    rw [List.reverse_cons, ← List.cons_append, val_snoc, ih, val_snoc, List.length_cons, Nat.pow_succ]
    generalize 256 ^ r.length = p
    generalize val r.reverse = v
    rw [Nat.add_mul, Nat.mul_assoc, Nat.add_assoc]
theorem take8 (s : List Nat) (h : s.length = 128) : s.take 8 = s.getD 0 0 :: (s.drop 1).take 7 := by
  cases s with
  | nil => cases h
  | cons a s => rfl
theorem top_val (s : List Nat) (h : s.length = 128) (hd : ∀ x ∈ s, x < 256) : top s = true ↔ val (s.take 8) = 4611686018427387904 := by
  have hl : ((s.drop 1).take 7).length = 7 := by rw [List.length_take, List.length_drop]; omega
  have hd7 : ∀ x ∈ (s.drop 1).take 7, x < 256 := fun x hx => hd x (List.mem_of_mem_drop (List.mem_of_mem_take hx))
  have hv : val (s.take 8) = s.getD 0 0 * 256 ^ 7 + val ((s.drop 1).take 7) := by rw [take8 s h, val_cons, hl]
  have hlt : val ((s.drop 1).take 7) < 256 ^ 7 := by have := val_lt _ hd7; rwa [hl] at this
  unfold top
  simp only [Bool.and_eq_true, decide_eq_true_eq]
  constructor
  · rintro ⟨h1, h2⟩
    rw [hv, h1, h2, val_zeros]
  · intro h1
    rw [hv] at h1
    have h2 : s.getD 0 0 = 64 ∧ val ((s.drop 1).take 7) = 0 := by omega
    refine ⟨h2.1, ?_⟩
    have := be_val _ hd7
    rw [hl, h2.2, be_zero] at this
    exact this.symm
theorem toldR_or (s : List Nat) (h : s.length = 128) (hd : ∀ x ∈ s, x < 256) : toldR s = told s ∨ (may (toldR s) = false ∧ may (told s) = false) := by
  have hl8 : (s.take 8).length = 8 := by rw [List.length_take]; omega
  have key : rEp s = (val (s.take 8) : Int) ∨ (rEp s = -1 ∧ 4611686018427387904 < val (s.take 8)) := by
    unfold rEp
    by_cases ht : top s = true
    · rw [if_pos ht, (top_val s h hd).1 ht]
      left; rfl
    · rw [if_neg ht]
      have hne : val (s.take 8) ≠ 4611686018427387904 := fun e => ht ((top_val s h hd).2 e)
      unfold valR
      by_cases hv : 4611686018427387904 ≤ val (s.take 8)
      · rw [if_pos ⟨hl8, hv⟩]
        right; exact ⟨rfl, by omega⟩
      · rw [if_neg (by simp; omega)]
        left; rfl
  rcases key with h1 | ⟨h1, h2⟩
  · left; unfold toldR told; rw [h1]
  · right
    constructor
    · cases hb : may (toldR s) with
      | false => rfl
      | true =>
        have := (may_yes hb).e0
        unfold toldR at this
        simp only at this
        omega
    · cases hb : may (told s) with
      | false => rfl
      | true =>
        have := (may_yes hb).e1
        unfold told at this
        simp only at this
        omega
/-- Are the first k bytes zeros? -/
def zer (s : List Nat) : Nat → Bool
  | 0 => true
  | k + 1 => zer s k && decide (s.getD k 0 = 0)
theorem zer_iff (s : List Nat) (k : Nat) : zer s k = true ↔ ∀ i, i < k → s.getD i 0 = 0 := by
  induction k with
  | zero => exact ⟨fun _ i hi => absurd hi (Nat.not_lt_zero _), fun _ => rfl⟩
  | succ k ih =>
    show (zer s k && decide (s.getD k 0 = 0)) = true ↔ _
    rw [Bool.and_eq_true, decide_eq_true_eq, ih]
    constructor
    · rintro ⟨h1, h2⟩ i hi
      rcases Nat.lt_or_ge i k with h3 | h3
      · exact h1 i h3
      · rw [show i = k by omega]; exact h2
    · intro h1
      exact ⟨fun i hi => h1 i (by omega), h1 k (by omega)⟩
theorem zer_all (s : List Nat) (h : s.length = 128) : zer s 128 = decide (s = zs128) := by
  have : zer s 128 = true ↔ s = zs128 := by
    rw [zer_iff]
    constructor
    · intro h1
      refine list_ext_getD (by rw [h]; rfl) fun i hi => ?_
      rw [h1 i (by omega)]
      unfold zs128
      rw [List.getD_eq_getElem?_getD, List.getElem?_replicate]
      split <;> rfl
    · intro h1 i hi
      rw [h1]
      unfold zs128
      rw [List.getD_eq_getElem?_getD, List.getElem?_replicate]
      split <;> rfl
  cases hz : zer s 128 with
  | true => rw [this.1 hz]; rfl
  | false =>
    symm
    rw [decide_eq_false_iff_not]
    intro e
    rw [this.2 e] at hz
    cases hz
end Go.Proofs.Ytnjlhallkgacjaa
