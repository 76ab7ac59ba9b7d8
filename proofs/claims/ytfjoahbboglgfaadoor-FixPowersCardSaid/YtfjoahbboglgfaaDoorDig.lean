/- Which byte is which digit, the value of a row of digits' bytes, and what a text stands for. -/
import Derived.Test.YtfjoahbboglgfaaDoorText
namespace Go.Proofs.YtfjoahbboglgfaaDoor

/-- What a byte stands for; 99: it is no digit. -/
def dgN (c : Nat) : Nat := if 48 ≤ c ∧ c ≤ 57 then c - 48 else if 97 ≤ c ∧ c ≤ 102 then c - 87 else if 65 ≤ c ∧ c ≤ 70 then c - 55 else 99
def dgC (c : UInt8) : Nat := dgN c.toNat
def chG (d : Nat) : UInt8 := if d < 10 then UInt8.ofNat (48 + d) else UInt8.ofNat (55 + d)
theorem dg_all : ∀ c, c < 256 → ∀ k, k < 16 → (dgN c = k ↔ (c = (ch k).toNat ∨ c = (chG k).toNat)) := by decide +kernel
theorem dg_ch : ∀ k, k < 16 → dgN (ch k).toNat = k := by decide +kernel
theorem ch_not : ∀ k, k < 16 → (ch k).toNat ≠ 45 ∧ (ch k).toNat ≠ 43 := by decide +kernel

/-- The value of digits' bytes, the highest first. -/
def valT (b : Nat) (l : List UInt8) : Nat := l.foldl (fun v c => v * b + dgC c) 0
def okT (b : Nat) (l : List UInt8) : Bool := l.all fun c => decide (dgC c < b)
theorem valT_snoc (b : Nat) (l : List UInt8) (c : UInt8) : valT b (l ++ [c]) = valT b l * b + dgC c := by unfold valT; rw [List.foldl_append]; rfl
theorem okT_snoc (b : Nat) (l : List UInt8) (c : UInt8) : okT b (l ++ [c]) = (okT b l && decide (dgC c < b)) := by unfold okT; simp

/-- A text's sign and what is behind it. -/
def cutG : List UInt8 → Int
  | 45 :: _ => -1
  | _ => 1
def cutR : List UInt8 → List UInt8
  | 45 :: t => t
  | 43 :: t => t
  | l => l

/-- The value of a number's own digits. -/
theorem valT_digits (b : Nat) (hb : b ≤ 16) : ∀ (f u : Nat), u < 2 ^ f → 2 ≤ b → okT b ((bd b f u).reverse.map ch) = true ∧ valT b ((bd b f u).reverse.map ch) = u
  | 0, u, h, h2 => by
    have : u = 0 := by simpa using h
    subst this
    have h0 : dgC (ch 0) = 0 := by decide
    refine ⟨?_, ?_⟩
    · simp [bd, okT, h0]; omega
    · simp [bd, valT, h0]
  | f + 1, u, h, h2 => by
    by_cases hu : u < b
    · rw [bd_small hu h]
      have hc : dgC (ch u) = u := dg_ch u (by omega)
      simp [okT, valT, hc, hu]
    · obtain ⟨h3, h4⟩ := valT_digits b hb f (u / b) (half h2 h) h2
      have hm : u % b < b := Nat.mod_lt _ (by omega)
      have hc : dgC (ch (u % b)) = u % b := dg_ch _ (by omega)
      rw [bd_big (by omega), List.reverse_cons, List.map_append, List.map_cons, List.map_nil, valT_snoc, okT_snoc, h3, h4, hc]
      refine ⟨by simpa using hm, ?_⟩
      rw [Nat.mul_comm]
      exact Nat.div_add_mod u b

end Go.Proofs.YtfjoahbboglgfaaDoor
