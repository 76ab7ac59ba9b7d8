/- The plain mathematics of the cyclic sum: one step of its register is linear over exclusive or, and takes nothing but 0 to 0. -/
import Derived.WalkKit
namespace Go.Proofs.Ytnjlhallkgacjaa

def poly : Nat := 3988292384
def full : Nat := 4294967295
/-- One step of the register. -/
def stp (r : Nat) : Nat := if r % 2 = 1 then (r / 2) ^^^ poly else r / 2
def stps : Nat → Nat → Nat
  | 0, r => r
  | n + 1, r => stps n (stp r)
/-- A byte is taken. -/
def eat (r c : Nat) : Nat := stps 8 (r ^^^ c)
/-- Bytes are taken. -/
def eats (r : Nat) (bs : List Nat) : Nat := bs.foldl eat r
/-- The sum behind a sum. -/
def more (s : Nat) (bs : List Nat) : Nat := full ^^^ eats (full ^^^ s) bs

theorem stp_bit (r i : Nat) : (stp r).testBit i = (r.testBit (i + 1)).xor (r.testBit 0 && poly.testBit i) := by
  unfold stp
  rw [Nat.testBit_succ, Nat.testBit_zero]
  by_cases h : r % 2 = 1
  · rw [if_pos h, Nat.testBit_xor]; simp [h]
  · rw [if_neg h]; simp [h]
theorem stp_xor (a b : Nat) : stp (a ^^^ b) = stp a ^^^ stp b := by
  apply Nat.eq_of_testBit_eq
  intro i
  rw [Nat.testBit_xor, stp_bit, stp_bit, stp_bit, Nat.testBit_xor, Nat.testBit_xor]
  cases a.testBit (i + 1) <;> cases b.testBit (i + 1) <;> cases a.testBit 0 <;> cases b.testBit 0 <;> cases poly.testBit i <;> rfl
theorem stp_zero : stp 0 = 0 := by decide
theorem stp_twice (x : Nat) : stp (2 * x) = x := by
  unfold stp; rw [if_neg (by omega)]; omega
theorem xor_lt {a b : Nat} (ha : a < 4294967296) (hb : b < 4294967296) : a ^^^ b < 4294967296 := Nat.xor_lt_two_pow (n := 32) ha hb
theorem stp_lt {r : Nat} (h : r < 4294967296) : stp r < 4294967296 := by
  unfold stp
  split
  · exact xor_lt (by omega) (by unfold poly; omega)
  · omega
theorem xor_eq_zero {a b : Nat} (h : a ^^^ b = 0) : a = b := by
  have h2 : (a ^^^ b) ^^^ b = 0 ^^^ b := by rw [h]
  rw [Nat.xor_assoc, Nat.xor_self, Nat.xor_zero, Nat.zero_xor] at h2
  exact h2
theorem stp_none {r : Nat} (h : r < 4294967296) (h0 : stp r = 0) : r = 0 := by
  unfold stp at h0
  split at h0
  · have := xor_eq_zero h0
    unfold poly at this
    omega
  · omega
theorem stps_xor (n a b : Nat) : stps n (a ^^^ b) = stps n a ^^^ stps n b := by
  induction n generalizing a b with
  | zero => rfl
  | succ n ih => show stps n (stp (a ^^^ b)) = _; rw [stp_xor, ih]; rfl
theorem stps_zero (n : Nat) : stps n 0 = 0 := by
  induction n with
  | zero => rfl
  | succ n ih => show stps n (stp 0) = 0; rw [stp_zero, ih]
theorem stps_lt (n : Nat) {r : Nat} (h : r < 4294967296) : stps n r < 4294967296 := by
  induction n generalizing r with
  | zero => exact h
  | succ n ih => exact ih (stp_lt h)
theorem stps_none (n : Nat) {r : Nat} (h : r < 4294967296) (h0 : stps n r = 0) : r = 0 := by
  induction n generalizing r with
  | zero => exact h0
  | succ n ih => exact stp_none h (ih (stp_lt h) h0)
theorem stps_add (m n r : Nat) : stps (m + n) r = stps n (stps m r) := by
  induction m generalizing r with
  | zero => rw [Nat.zero_add]; rfl
  | succ m ih => rw [Nat.add_right_comm]; exact ih _
theorem stps_up (n x : Nat) : stps n (2 ^ n * x) = x := by
  induction n generalizing x with
  | zero => show 2 ^ 0 * x = x; omega
  | succ n ih => show stps n (stp (2 ^ (n + 1) * x)) = x; rw [show 2 ^ (n + 1) * x = 2 * (2 ^ n * x) by rw [Nat.pow_succ]; ac_rfl, stp_twice, ih]
theorem stps_pow (n j : Nat) (h : j ≤ n) : stps n (2 ^ j) = stps (n - j) 1 := by
  obtain ⟨m, rfl⟩ : ∃ m, n = j + m := ⟨n - j, by omega⟩
  rw [stps_add, show 2 ^ j = 2 ^ j * 1 by omega, stps_up, show j + m - j = m by omega]

theorem eat_xor (r d c : Nat) : eat (r ^^^ d) c = eat r c ^^^ stps 8 d := by
  unfold eat
  rw [← stps_xor]; congr 1
  rw [Nat.xor_assoc, Nat.xor_comm d c, Nat.xor_assoc]
theorem eat_byte (r c e : Nat) : eat r (c ^^^ e) = eat r c ^^^ stps 8 e := by
  unfold eat
  rw [← stps_xor, Nat.xor_assoc]
theorem eats_xor (bs : List Nat) (r d : Nat) : eats (r ^^^ d) bs = eats r bs ^^^ stps (8 * bs.length) d := by
  induction bs generalizing r d with
  | nil => rfl
  | cons c bs ih =>
    show eats (eat (r ^^^ d) c) bs = eats (eat r c) bs ^^^ _
    rw [eat_xor, ih, ← stps_add, show 8 + 8 * bs.length = 8 * (c :: bs).length by simp; omega]
theorem eats_append (r : Nat) (a b : List Nat) : eats r (a ++ b) = eats (eats r a) b := List.foldl_append ..
theorem eat_lt {r c : Nat} (h : r < 4294967296) (hc : c < 256) : eat r c < 4294967296 := stps_lt 8 (xor_lt h (by omega))
theorem eats_lt {r : Nat} {bs : List Nat} (h : r < 4294967296) (hb : ∀ x ∈ bs, x < 256) : eats r bs < 4294967296 := by
  induction bs generalizing r with
  | nil => exact h
  | cons c bs ih => exact ih (eat_lt h (hb c (by simp))) fun x hx => hb x (by simp [hx])
theorem more_lt {s : Nat} {bs : List Nat} (h : s < 4294967296) (hb : ∀ x ∈ bs, x < 256) : more s bs < 4294967296 :=
  xor_lt (by decide) (eats_lt (xor_lt (by decide) h) hb)
theorem more_nil (s : Nat) : more s [] = s := by
  show full ^^^ (full ^^^ s) = s
  rw [← Nat.xor_assoc, Nat.xor_self, Nat.zero_xor]
theorem more_more (s : Nat) (a b : List Nat) : more (more s a) b = more s (a ++ b) := by
  unfold more
  rw [eats_append, ← Nat.xor_assoc full full, Nat.xor_self, Nat.zero_xor]
/-- One bit of one byte is turned. -/
theorem eats_flip (bs : List Nat) (r k j : Nat) (hk : k < bs.length) (hj : j < 8) :
    eats r (bs.set k (bs[k] ^^^ 2 ^ j)) = eats r bs ^^^ stps (8 * bs.length - (8 * k + j)) 1 := by
  induction bs generalizing r k with
  | nil => exact absurd hk (by simp)
  | cons c bs ih =>
    cases k with
    | zero =>
      show eats (eat r (c ^^^ 2 ^ j)) bs = eats (eat r c) bs ^^^ _
      rw [eat_byte, eats_xor, ← stps_add, stps_pow _ _ (by omega)]
      simp only [List.length_cons]
      rw [show 8 + 8 * bs.length - j = 8 * (bs.length + 1) - (8 * 0 + j) by omega]
    | succ k =>
      have hk' : k < bs.length := by simpa using hk
      show eats (eat r c) (bs.set k (bs[k] ^^^ 2 ^ j)) = eats (eat r c) bs ^^^ _
      rw [ih _ k hk']
      simp only [List.length_cons]
      rw [show 8 * bs.length - (8 * k + j) = 8 * (bs.length + 1) - (8 * (k + 1) + j) by omega]
/-- The four bytes of a sum, the lowest first. -/
def tailOf (s : Nat) : List Nat := [s % 256, s / 256 % 256, s / 65536 % 256, s / 16777216 % 256]
theorem four (s : Nat) (h : s < 4294967296) : s = s % 256 + 256 * (s / 256 % 256 + 256 * (s / 65536 % 256 + 256 * (s / 16777216 % 256))) := by omega
theorem plus_xor (a b : Nat) (h : a < 256) : a + 256 * b = a ^^^ 256 * b := by
  have := Nat.two_pow_add_eq_or_of_lt (i := 8) h b
  apply Nat.eq_of_testBit_eq
  intro i
  rw [show a + 256 * b = 2 ^ 8 * b + a by omega, Nat.testBit_two_pow_mul_add _ h, Nat.testBit_xor, show 256 * b = 2 ^ 8 * b from rfl, Nat.testBit_two_pow_mul]
  by_cases hi : i < 8
  · simp [hi, show ¬ i ≥ 8 by omega]
  · have : a.testBit i = false := Nat.testBit_lt_two_pow (Nat.lt_of_lt_of_le h (by rw [show (256 : Nat) = 2 ^ 8 from rfl]; exact Nat.pow_le_pow_right (by omega) (by omega)))
    simp [hi, this, show i ≥ 8 by omega]
theorem eat_rest (r a b : Nat) (h : a < 256) : stps 8 (r ^^^ (a + 256 * b)) = eat r a ^^^ b := by
  rw [plus_xor a b h, ← Nat.xor_assoc, stps_xor, show 256 * b = 2 ^ 8 * b from rfl, stps_up]; rfl
/-- Taking a sum's four bytes is taking its 32 bits at once. -/
theorem eats_tail (r s : Nat) (h : s < 4294967296) : eats r (tailOf s) = stps 32 (r ^^^ s) := by
  show eat (eat (eat (eat r (s % 256)) (s / 256 % 256)) (s / 65536 % 256)) (s / 16777216 % 256) = _
  rw [show (32 : Nat) = 8 + (8 + (8 + 8)) from rfl, stps_add, stps_add, stps_add]
  conv => rhs; rw [four s h]
  rw [eat_rest _ _ _ (by omega), eat_rest _ _ _ (by omega), eat_rest _ _ _ (by omega)]; rfl
/-- Bytes behind which their own sum lies leave one and the same register. -/
def fine (bs : List Nat) : Prop := eats full bs = stps 32 full
theorem tail_len (s : Nat) : (tailOf s).length = 4 := rfl
theorem fine_iff (a : List Nat) (s : Nat) (ha : ∀ x ∈ a, x < 256) (h : s < 4294967296) : fine (a ++ tailOf s) ↔ s = more 0 a := by
  unfold fine
  rw [eats_append, eats_tail _ _ h]
  have hl : eats full a < 4294967296 := eats_lt (by decide) ha
  constructor
  · intro he
    have h2 : stps 32 ((eats full a ^^^ s) ^^^ full) = 0 := by rw [stps_xor, he, Nat.xor_self]
    have h3 := xor_eq_zero (stps_none 32 (xor_lt (xor_lt hl h) (by decide)) h2)
    show s = full ^^^ eats (full ^^^ 0) a
    rw [Nat.xor_zero]
    have h4 : eats full a ^^^ (eats full a ^^^ s) = eats full a ^^^ full := by rw [h3]
    rw [← Nat.xor_assoc, Nat.xor_self, Nat.zero_xor] at h4
    rw [Nat.xor_comm]
    exact h4
  · intro he
    have h3 : s = full ^^^ eats full a := by rw [he]; unfold more; rw [Nat.xor_zero]
    rw [h3, Nat.xor_comm full, ← Nat.xor_assoc, Nat.xor_self, Nat.zero_xor]
/-- Bits within 32 are turned: the register at the end differs, if any is. -/
theorem burst_ne {n m : Nat} (hm : m < 4294967296) (h0 : m ≠ 0) (x : Nat) : x ^^^ stps n m ≠ x := by
  intro h
  have h2 : x ^^^ (x ^^^ stps n m) = x ^^^ x := by rw [h]
  rw [← Nat.xor_assoc, Nat.xor_self, Nat.zero_xor] at h2
  exact h0 (stps_none n hm h2)

end Go.Proofs.Ytnjlhallkgacjaa
