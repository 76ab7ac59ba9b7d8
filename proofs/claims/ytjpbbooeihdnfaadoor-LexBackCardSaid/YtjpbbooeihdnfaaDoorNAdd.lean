/- Checked sums and products of numbers. -/
import Derived.Test.YtjpbbooeihdnfaaDoorProg
import Derived.WalkKit
import Derived.WalkSpells
import Derived.WalkLawsBesides
import Derived.BigGuardPart
import Derived.Lib.Hide
namespace Go.Proofs.YtjpbbooeihdnfaaDoor
open Go.RowKit

/-- Is it a number of 64 bits? -/
def fitB (n : Int) : Bool := decide (-9223372036854775808 ≤ n ∧ n ≤ 9223372036854775807)
/-- The number, or 0 where it doesn't fit. -/
def fitV (n : Int) : Int := if fitB n = true then n else 0
def Is64 (n : Int) : Prop := -9223372036854775808 ≤ n ∧ n ≤ 9223372036854775807
theorem fitB_yes {n : Int} (h : Is64 n) : fitB n = true := decide_eq_true h
theorem fitB_no {n : Int} (h : ¬ Is64 n) : fitB n = false := decide_eq_false h
theorem fitV_yes {n : Int} (h : Is64 n) : fitV n = n := if_pos (fitB_yes h)
theorem fitV_no {n : Int} (h : ¬ Is64 n) : fitV n = 0 := by unfold fitV; rw [fitB_no h]; rfl
theorem ret_fit {x : Int} {b : Bool} {n : Int} (hx : x = fitV n) (hb : b = fitB n) : Ending.returned (.tuple #[.int .i64 x, .bool b]) = .returned (.tuple #[.int .i64 (fitV n), .bool (fitB n)]) := by rw [hx, hb]
theorem ret_yes {x n : Int} (h : Is64 n) (hx : x = n) : Ending.returned (.tuple #[.int .i64 x, .bool true]) = .returned (.tuple #[.int .i64 (fitV n), .bool (fitB n)]) := by rw [hx, fitV_yes h, fitB_yes h]
theorem ret_no {n : Int} (h : ¬ Is64 n) : Ending.returned (.tuple #[.int .i64 0, .bool false]) = .returned (.tuple #[.int .i64 (fitV n), .bool (fitB n)]) := by rw [fitV_no h, fitB_no h]
theorem le_of_not {a b : Int} (h : ¬ a < b) : b ≤ a := by omega
set_option maxHeartbeats 400000 in
theorem add_any (a b : Int) (w : World) (h1 : -9223372036854775808 ≤ a) (h2 : a ≤ 9223372036854775807) (h3 : -9223372036854775808 ≤ b) (h4 : b ≤ 9223372036854775807) :
    Calls Tryd.prog 69 #[.int .i64 a, .int .i64 b] w fun e w' => e = .returned (.tuple #[.int .i64 (fitV (a + b)), .bool (fitB (a + b))]) ∧ w = w' := by
  by_cases ha : a < 0 <;> by_cases hb : b < 0 <;> by_cases hs : wrap64 (a + b) < 0
  all_goals
    go_enter Tryd.func69, Tryd.ntmps69
    go_wp2
  all_goals go_ret2
  all_goals refine ⟨?_, rfl⟩
  all_goals first
    | exact ret_yes (by unfold Is64; unfold wrap64 at hs; omega) rfl
    | exact ret_no (by unfold Is64; unfold wrap64 at hs; omega)
    | exact ret_yes (by unfold Is64; unfold wrap64 at hs; omega) (by unfold wrap64; unfold wrap64 at hs; omega)
theorem tdiv_bd (a b : Int) (hb : b ≠ 0) (h1 : -9223372036854775808 ≤ a) (h2 : a ≤ 9223372036854775807) (h : ¬ (a = -9223372036854775808 ∧ b = -1)) : -9223372036854775808 ≤ a.tdiv b ∧ a.tdiv b ≤ 9223372036854775807 := by
  have e : (a.tdiv b).natAbs = a.natAbs / b.natAbs := Int.natAbs_tdiv a b
  have hle : a.natAbs / b.natAbs ≤ a.natAbs := Nat.div_le_self _ _
  by_cases hb1 : b.natAbs = 1
  · have : b = 1 ∨ b = -1 := by omega
    rcases this with rfl | rfl
    · rw [Int.tdiv_one]; omega
    · rw [Int.tdiv_neg, Int.tdiv_one]; omega
  · have : a.natAbs / b.natAbs ≤ a.natAbs / 2 := Nat.div_le_div_left (by omega) (by omega)
    omega
theorem tmod_bd (a b : Int) (hb : b ≠ 0) : (a.tmod b).natAbs < b.natAbs := by
  rw [Int.natAbs_tmod]; exact Nat.mod_lt _ (by omega)
/-- Where a product wraps and the quotient still fits, the product fitted. -/
theorem mul_back {a b p : Int} (hb : b ≠ 0) (h1 : -9223372036854775808 ≤ b) (h2 : b ≤ 9223372036854775807) (hp : p = wrap64 (a * b)) (hq : p.tdiv b = a) : p = a * b := by
  have e := Int.mul_tdiv_add_tmod p b
  have hm := tmod_bd p b hb
  rw [hq, Int.mul_comm] at e
  unfold wrap64 at hp
  generalize a * b = n at *
  omega
theorem sign_mul {a b : Int} (ha : a ≠ 0) (hb : b ≠ 0) : decide (a * b < 0) = (!(decide (a < 0) == decide (b < 0))) := by
  by_cases h1 : a < 0 <;> by_cases h2 : b < 0
  · have : 0 < a * b := Int.mul_pos_of_neg_of_neg h1 h2
    simp [h1, h2]; omega
  · have : a * b < 0 := Int.mul_neg_of_neg_of_pos h1 (by omega)
    simp [h1, h2, this]
  · have : a * b < 0 := Int.mul_neg_of_pos_of_neg (by omega) h2
    simp [h1, h2, this]
  · have : 0 < a * b := Int.mul_pos (by omega) (by omega)
    simp [h1, h2]; omega
theorem mul_no1 {a b : Int} (ha : a ≠ 0) (hb : b ≠ 0) (h : ¬ decide (wrap64 (a * b) < 0) = (!(decide (a < 0) == decide (b < 0)))) : ¬ Is64 (a * b) := by
  intro hf
  rw [IntWalk.wrap64_in _ hf] at h
  exact h (sign_mul ha hb)
theorem mul_no2 {a b : Int} (hb : b ≠ 0) (h1 : -9223372036854775808 ≤ a) (h2 : a ≤ 9223372036854775807) (h : (wrap64 ((wrap64 (a * b)).tdiv b) != a) = true) : ¬ Is64 (a * b) := by
  intro hf
  rw [IntWalk.wrap64_in _ hf, Int.mul_tdiv_cancel _ hb, IntWalk.wrap64_in _ ⟨h1, h2⟩] at h
  simp at h
theorem mul_yes3 {a b : Int} (_ha : a ≠ 0) (hb : b ≠ 0) (h3 : -9223372036854775808 ≤ b) (h4 : b ≤ 9223372036854775807)
    (hs : decide (wrap64 (a * b) < 0) = (!(decide (a < 0) == decide (b < 0)))) (h : (wrap64 ((wrap64 (a * b)).tdiv b) != a) = false) : wrap64 (a * b) = a * b := by
  have hq : wrap64 ((wrap64 (a * b)).tdiv b) = a := by simpa using h
  by_cases hc : wrap64 (a * b) = -9223372036854775808 ∧ b = -1
  · obtain ⟨hc1, rfl⟩ := hc
    rw [hc1] at hq hs
    have hq2 : (-9223372036854775808 : Int).tdiv (-1) = 9223372036854775808 := by decide
    rw [hq2] at hq
    unfold wrap64 at hq
    have : a = -9223372036854775808 := by omega
    subst this
    simp at hs
  · have hp : -9223372036854775808 ≤ wrap64 (a * b) ∧ wrap64 (a * b) ≤ 9223372036854775807 := by unfold wrap64; omega
    have hbd := tdiv_bd (wrap64 (a * b)) b hb hp.1 hp.2 hc
    rw [IntWalk.wrap64_in _ hbd] at hq
    exact mul_back hb h3 h4 rfl hq
set_option maxHeartbeats 800000 in
theorem mul_any (a b : Int) (w : World) (h1 : -9223372036854775808 ≤ a) (h2 : a ≤ 9223372036854775807) (h3 : -9223372036854775808 ≤ b) (h4 : b ≤ 9223372036854775807) :
    Calls Tryd.prog 68 #[.int .i64 a, .int .i64 b] w fun e w' => e = .returned (.tuple #[.int .i64 (fitV (a * b)), .bool (fitB (a * b))]) ∧ w = w' := by
  by_cases ha : a = 0
  · subst ha
    rw [Int.zero_mul]
    go_enter Tryd.func68, Tryd.ntmps68
    go_wp2
    go_ret2
    exact ⟨rfl, rfl⟩
  · by_cases hb : b = 0
    · subst hb
      rw [Int.mul_zero]
      have a0 : (a == 0) = false := by simpa using ha
      go_enter Tryd.func68, Tryd.ntmps68
      go_wp2
      go_ret2
      exact ⟨rfl, rfl⟩
    · have a0 : (a == 0) = false := by simpa using ha
      have b0 : (b == 0) = false := by simpa using hb
      go_enter Tryd.func68, Tryd.ntmps68
      go_wp2
      all_goals go_ret2
      · exact ⟨ret_no (mul_no1 ha hb ‹_›), rfl⟩
      · exact ⟨ret_no (mul_no2 hb h1 h2 ‹_›), rfl⟩
      · have hm := mul_yes3 ha hb h3 h4 ‹_› ‹_›
        exact ⟨ret_yes (by unfold Is64; rw [← hm]; unfold wrap64; omega) hm, rfl⟩

end Go.Proofs.YtjpbbooeihdnfaaDoor
