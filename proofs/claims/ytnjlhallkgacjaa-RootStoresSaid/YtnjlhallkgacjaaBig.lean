/- Numbers in bytes, the highest first. -/
namespace Go.Proofs.Ytnjlhallkgacjaa

/-- A number in so many bytes, the highest first. -/
def be : Nat → Nat → List Nat
  | 0, _ => []
  | k + 1, n => be k (n / 256) ++ [n % 256]
theorem be_len (k n : Nat) : (be k n).length = k := by
  induction k generalizing n with
  | zero => rfl
  | succ k ih => show (be k (n / 256) ++ [n % 256]).length = _; rw [List.length_append, ih]; rfl
theorem be_dig (k n : Nat) : ∀ x ∈ be k n, x < 256 := by
  induction k generalizing n with
  | zero => intro x hx; cases hx
  | succ k ih =>
    intro x hx
    rcases List.mem_append.1 hx with h | h
    · exact ih _ x h
    · rw [List.mem_singleton.1 h]; exact Nat.mod_lt _ (by omega)
theorem be_get (k n i : Nat) (h : i < k) : (be k n).getD i 0 = n / 256 ^ (k - 1 - i) % 256 := by
  induction k generalizing n with
  | zero => exact absurd h (Nat.not_lt_zero _)
  | succ k ih =>
    show (be k (n / 256) ++ [n % 256]).getD i 0 = _
    rw [List.getD_eq_getElem?_getD]
    by_cases hi : i < k
    · rw [List.getElem?_append_left (by rw [be_len]; exact hi), ← List.getD_eq_getElem?_getD, ih _ hi, Nat.div_div_eq_div_mul, ← Nat.pow_succ']
      congr 3; omega
    · obtain rfl : i = k := by omega
      rw [List.getElem?_append_right (by rw [be_len]; exact Nat.le_refl _), be_len, Nat.sub_self, show i + 1 - 1 - i = 0 by omega, Nat.pow_zero, Nat.div_one]
      rfl
/-- The number of bytes, the highest first. -/
def val (bs : List Nat) : Nat := bs.foldl (fun n b => n * 256 + b) 0
theorem val_snoc (bs : List Nat) (b : Nat) : val (bs ++ [b]) = val bs * 256 + b := by unfold val; rw [List.foldl_append]; rfl
theorem val_be (k n : Nat) (h : n < 256 ^ k) : val (be k n) = n := by
  induction k generalizing n with
  | zero => rw [Nat.pow_zero] at h; show 0 = n; omega
  | succ k ih =>
    show val (be k (n / 256) ++ [n % 256]) = n
    rw [val_snoc, ih _ (by rw [Nat.pow_succ] at h; exact Nat.div_lt_of_lt_mul (by rw [Nat.mul_comm]; exact h))]
    omega
theorem val_lt (bs : List Nat) (h : ∀ x ∈ bs, x < 256) : val bs < 256 ^ bs.length := by
  suffices ∀ (r : List Nat), (∀ x ∈ r, x < 256) → val r.reverse < 256 ^ r.length by
    have := this bs.reverse (fun x hx => h x (List.mem_reverse.1 hx))
    rwa [List.reverse_reverse, List.length_reverse] at this
  intro r
  induction r with
  | nil => intro _; show 0 < 256 ^ 0; omega
  | cons a r ih =>
    intro hd
    rw [List.reverse_cons, val_snoc, List.length_cons, Nat.pow_succ]
    have h1 := ih (fun x hx => hd x (by simp [hx]))
    have h2 := hd a (by simp)
    omega
theorem be_val (bs : List Nat) (h : ∀ x ∈ bs, x < 256) : be bs.length (val bs) = bs := by
  suffices ∀ (r : List Nat), (∀ x ∈ r, x < 256) → be r.length (val r.reverse) = r.reverse by
    have := this bs.reverse (fun x hx => h x (List.mem_reverse.1 hx))
    rwa [List.reverse_reverse, List.length_reverse] at this
  intro r
  induction r with
  | nil => intro _; rfl
  | cons a r ih =>
    intro hd
    have h2 := hd a (by simp)
    rw [List.reverse_cons, val_snoc]
    show be r.length ((val r.reverse * 256 + a) / 256) ++ [(val r.reverse * 256 + a) % 256] = _
    rw [show (val r.reverse * 256 + a) / 256 = val r.reverse by omega, show (val r.reverse * 256 + a) % 256 = a by omega, ih (fun x hx => hd x (by simp [hx]))]
theorem be_inj {k n m : Nat} (hn : n < 256 ^ k) (hm : m < 256 ^ k) (h : be k n = be k m) : n = m := by
  rw [← val_be k n hn, ← val_be k m hm, h]
theorem be_zero (k : Nat) : be k 0 = List.replicate k 0 := by
  induction k with
  | zero => rfl
  | succ k ih => show be k (0 / 256) ++ [0 % 256] = _; rw [show 0 / 256 = 0 from rfl, ih, List.replicate_succ']
theorem be_one {n : Nat} (k : Nat) : be (k + 1) n = be k (n / 256) ++ [n % 256] := rfl
theorem val_zeros (k : Nat) : val (List.replicate k 0) = 0 := by
  rw [← be_zero]; exact val_be k 0 (Nat.pow_pos (by omega))
end Go.Proofs.Ytnjlhallkgacjaa
