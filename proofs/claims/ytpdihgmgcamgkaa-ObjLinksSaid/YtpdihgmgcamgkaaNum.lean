/- The bytes of a number, seven bits each, and what a reader makes of them: plain mathematics. -/

namespace Go.Proofs.Ytpdihgmgcamgkaa

/-- The bytes of a number. -/
def numB (n : Nat) : List Nat := if n < 128 then [n] else (n % 128 + 128) :: numB (n / 128)
termination_by n
decreasing_by omega
theorem numB_lo {n : Nat} (h : n < 128) : numB n = [n] := by rw [numB, if_pos h]
theorem numB_hi {n : Nat} (h : ¬ n < 128) : numB n = (n % 128 + 128) :: numB (n / 128) := by rw [numB, if_neg h]

theorem numB_ind {P : Nat → Prop} (h1 : ∀ n, n < 128 → P n) (h2 : ∀ n, ¬ n < 128 → P (n / 128) → P n) (n : Nat) : P n := by
  induction n using Nat.strongRecOn with
  | ind n ih =>
    by_cases h : n < 128
    · exact h1 n h
    · exact h2 n h (ih _ (by omega))

theorem numB_dig (n : Nat) : ∀ x ∈ numB n, x < 256 := by
  induction n using numB_ind with
  | h1 n h => rw [numB_lo h]; intro x hx; simp at hx; omega
  | h2 n h ih =>
    rw [numB_hi h]
    intro x hx
    rcases List.mem_cons.1 hx with h | h
    · omega
    · exact ih x h
theorem numB_pos (n : Nat) : 0 < (numB n).length := by
  by_cases h : n < 128
  · rw [numB_lo h]; simp
  · rw [numB_hi h]; simp
theorem numB_len (k n : Nat) (h : n < 128 ^ (k + 1)) : (numB n).length ≤ k + 1 := by
  induction k generalizing n with
  | zero => rw [numB_lo (by omega)]; simp
  | succ k ih =>
    by_cases hn : n < 128
    · rw [numB_lo hn]; simp
    · rw [numB_hi hn]
      have := ih (n / 128) (by rw [Nat.pow_succ] at h; omega)
      simp; omega
theorem numB_ten {n : Nat} (h : n < 18446744073709551616) : (numB n).length ≤ 10 := numB_len 9 n (Nat.lt_of_lt_of_le h (by decide))

/-- What stands at a number's places. -/
theorem numB_at (n : Nat) : ∃ k, (numB n).length = k + 1 ∧ (∀ j, j < k → (numB n).getD j 0 = n / 128 ^ j % 128 + 128) ∧ (numB n).getD k 0 = n / 128 ^ k ∧ n / 128 ^ k < 128 ∧ (0 < k → 0 < n / 128 ^ k) := by
  induction n using numB_ind with
  | h1 n h => exact ⟨0, by rw [numB_lo h]; rfl, fun j hj => absurd hj (Nat.not_lt_zero _), by rw [numB_lo h]; simp, by simpa using h, fun h => absurd h (Nat.lt_irrefl _)⟩
  | h2 n h ih =>
    obtain ⟨k, h1, h2, h3, h4, h5⟩ := ih
    have hd : ∀ j, n / 128 / 128 ^ j = n / 128 ^ (j + 1) := fun j => by rw [Nat.div_div_eq_div_mul, Nat.pow_succ, Nat.mul_comm]
    refine ⟨k + 1, by rw [numB_hi h]; simp [h1], ?_, by rw [numB_hi h, List.getD_cons_succ, h3, hd], by rw [← hd]; exact h4, fun _ => ?_⟩
    · intro j hj
      rw [numB_hi h]
      cases j with
      | zero => simp
      | succ j => rw [List.getD_cons_succ, h2 j (by omega), hd]
    · rw [← hd]
      rcases Nat.eq_zero_or_pos k with h0 | h0
      · subst h0
        rw [Nat.pow_zero, Nat.div_one]; omega
      · exact h5 h0

/-- A number that was read from behind to the place j, and one place more. -/
theorem horner (n j : Nat) : n / 128 ^ (j + 1) * 128 + n / 128 ^ j % 128 = n / 128 ^ j := by
  rw [Nat.pow_succ, ← Nat.div_div_eq_div_mul]
  omega
theorem shift_or (m r : Nat) (h : r < 128) : m * 128 ||| r = m * 128 + r := by
  have := Nat.two_pow_add_eq_or_of_lt (i := 7) (b := r) (by simpa using h) m
  rw [show 2 ^ 7 * m = m * 128 by omega] at this
  exact this.symm
theorem div_small {n j : Nat} (hj : 0 < j) : n / 128 ^ j ≤ n / 128 := by
  obtain ⟨j, rfl⟩ : ∃ i, j = i + 1 := ⟨j - 1, by omega⟩
  rw [Nat.pow_succ, Nat.mul_comm, ← Nat.div_div_eq_div_mul]
  exact Nat.div_le_self _ _

/-- A whole number's doubled size. -/
def zig (n : Int) : Nat := if n < 0 then (-2 * n - 1).toNat else (2 * n).toNat
theorem zig_neg {n : Int} (h : n < 0) : zig n = (-2 * n - 1).toNat := if_pos h
theorem zig_pos {n : Int} (h : ¬ n < 0) : zig n = (2 * n).toNat := if_neg h
theorem zig_lt {n : Int} (h0 : -9223372036854775808 ≤ n) (h1 : n ≤ 9223372036854775807) : zig n < 18446744073709551616 := by
  unfold zig; split <;> omega
/-- A whole number of its doubled size. -/
def zag (m : Nat) : Int := if m % 2 = 1 then -((m / 2 : Nat) : Int) - 1 else ((m / 2 : Nat) : Int)
theorem zag_zig (n : Int) : zag (zig n) = n := by
  unfold zag zig
  split <;> split <;> omega
end Go.Proofs.Ytpdihgmgcamgkaa
