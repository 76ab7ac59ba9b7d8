/- What the checked sums, differences, quotients and remainders of package fix return at every pair of 64-bit numbers. -/
import Derived.Test.YtfjoahbboglgfaaDoorProg
import Derived.WalkKit
import Derived.WalkSpells
import Derived.WalkLawsBesides
import Derived.BigGuardPart
import Derived.Lib.Hide
namespace Go.Proofs.YtfjoahbboglgfaaDoor
open Go.RowKit

/-- Is it a number of 64 bits? -/
def fitB (n : Int) : Bool := decide (-9223372036854775808 ≤ n ∧ n ≤ 9223372036854775807)
/-- The number, or 0 where it doesn't fit. -/
def fitV (n : Int) : Int := if fitB n = true then n else 0
def Is64 (n : Int) : Prop := -9223372036854775808 ≤ n ∧ n ≤ 9223372036854775807

theorem fitB_yes {n : Int} (h : Is64 n) : fitB n = true := decide_eq_true h
theorem fitB_no {n : Int} (h : ¬ Is64 n) : fitB n = false := decide_eq_false h
theorem fitV_yes {n : Int} (h : Is64 n) : fitV n = n := if_pos (fitB_yes h)
theorem fitV_no {n : Int} (h : ¬ Is64 n) : fitV n = 0 := by unfold fitV; rw [fitB_no h]; rfl
theorem ret_fit {x : Int} {b : Bool} {n : Int} (hx : x = fitV n) (hb : b = fitB n) : Ending.returned (.tuple #[.int .i64 x, .bool b]) = .returned (.tuple #[.int .i64 (fitV n), .bool (fitB n)]) := by rw [hx, hb]
theorem ret_yes {x n : Int} (h : Is64 n) (hx : x = n) : Ending.returned (.tuple #[.int .i64 x, .bool true]) = .returned (.tuple #[.int .i64 (fitV n), .bool (fitB n)]) := by rw [hx, fitV_yes h, fitB_yes h]
theorem ret_no {n : Int} (h : ¬ Is64 n) : Ending.returned (.tuple #[.int .i64 0, .bool false]) = .returned (.tuple #[.int .i64 (fitV n), .bool (fitB n)]) := by rw [fitV_no h, fitB_no h]

theorem le_of_not {a b : Int} (h : ¬ a < b) : b ≤ a := by omega

set_option maxHeartbeats 400000 in
theorem add_any (a b : Int) (w : World) (h1 : -9223372036854775808 ≤ a) (h2 : a ≤ 9223372036854775807) (h3 : -9223372036854775808 ≤ b) (h4 : b ≤ 9223372036854775807) :
    Calls Tryd.prog 11 #[.int .i64 a, .int .i64 b] w fun e w' => e = .returned (.tuple #[.int .i64 (fitV (a + b)), .bool (fitB (a + b))]) ∧ w = w' := by
  by_cases ha : a < 0 <;> by_cases hb : b < 0 <;> by_cases hs : wrap64 (a + b) < 0
  all_goals
    go_enter Tryd.func11, Tryd.ntmps11
    go_wp2
  all_goals go_ret2
  all_goals refine ⟨?_, rfl⟩
  all_goals first
    | exact ret_yes (by unfold Is64; unfold wrap64 at hs; omega) rfl
    | exact ret_no (by unfold Is64; unfold wrap64 at hs; omega)
    | exact ret_yes (by unfold Is64; unfold wrap64 at hs; omega) (by unfold wrap64; unfold wrap64 at hs; omega)

set_option maxHeartbeats 400000 in
theorem sub_any (a b : Int) (w : World) (h1 : -9223372036854775808 ≤ a) (h2 : a ≤ 9223372036854775807) (h3 : -9223372036854775808 ≤ b) (h4 : b ≤ 9223372036854775807) :
    Calls Tryd.prog 12 #[.int .i64 a, .int .i64 b] w fun e w' => e = .returned (.tuple #[.int .i64 (fitV (a - b)), .bool (fitB (a - b))]) ∧ w = w' := by
  by_cases ha : a < 0 <;> by_cases hb : b < 0 <;> by_cases hs : wrap64 (a - b) < 0
  all_goals
    go_enter Tryd.func12, Tryd.ntmps12
    go_wp2
  all_goals go_ret2
  all_goals refine ⟨?_, rfl⟩
  all_goals first
    | exact ret_yes (by unfold Is64; unfold wrap64 at hs; omega) rfl
    | exact ret_no (by unfold Is64; unfold wrap64 at hs; omega)
    | exact ret_yes (by unfold Is64; unfold wrap64 at hs; omega) (by unfold wrap64; unfold wrap64 at hs; omega)

set_option maxHeartbeats 400000 in
theorem neg_any (a : Int) (w : World) (h1 : -9223372036854775808 ≤ a) (h2 : a ≤ 9223372036854775807) :
    Calls Tryd.prog 13 #[.int .i64 a] w fun e w' => e = .returned (.tuple #[.int .i64 (fitV (-a)), .bool (fitB (-a))]) ∧ w = w' := by
  go_enter Tryd.func13, Tryd.ntmps13
  go_wp2_with fail
  refine (sub_any 0 a _ (by omega) (by omega) (by omega) (by omega)).mono ?_
  rintro e w' ⟨rfl, rfl⟩
  rw [show (0 : Int) - a = -a by omega]
  go_wp2_with fail
  go_ret2
  exact ⟨rfl, rfl⟩

set_option maxHeartbeats 400000 in
theorem abs_any (a : Int) (w : World) (h1 : -9223372036854775808 ≤ a) (h2 : a ≤ 9223372036854775807) :
    Calls Tryd.prog 14 #[.int .i64 a] w fun e w' => e = .returned (.tuple #[.int .i64 (fitV (a.natAbs : Int)), .bool (fitB (a.natAbs : Int))]) ∧ w = w' := by
  by_cases ha : a < 0
  · have e1 : (a.natAbs : Int) = -a := by omega
    rw [e1]
    clear e1
    go_enter Tryd.func14, Tryd.ntmps14
    go_wp2_with fail
    refine (neg_any a _ (by omega) (by omega)).mono ?_
    rintro e w' ⟨rfl, rfl⟩
    go_wp2_with fail
    go_ret2
    exact ⟨rfl, rfl⟩
  · have e1 : (a.natAbs : Int) = a := by omega
    rw [e1]
    clear e1
    go_enter Tryd.func14, Tryd.ntmps14
    go_wp2_with fail
    go_ret2
    exact ⟨ret_yes ⟨h1, h2⟩ rfl, rfl⟩

/-- The modulus. -/
def modV (a b : Int) : Int := if a.tmod b ≠ 0 ∧ (a.tmod b < 0 ↔ ¬ b < 0) then a.tmod b + b else a.tmod b

theorem tdiv_bd (a b : Int) (hb : b ≠ 0) (h1 : -9223372036854775808 ≤ a) (h2 : a ≤ 9223372036854775807) (h : ¬ (a = -9223372036854775808 ∧ b = -1)) : -9223372036854775808 ≤ a.tdiv b ∧ a.tdiv b ≤ 9223372036854775807 := by
  have e : (a.tdiv b).natAbs = a.natAbs / b.natAbs := Int.natAbs_tdiv a b
  have hle : a.natAbs / b.natAbs ≤ a.natAbs := Nat.div_le_self _ _
  by_cases hb1 : b.natAbs = 1
  · have : b = 1 ∨ b = -1 := by omega
    rcases this with rfl | rfl
    · rw [Int.tdiv_one]; omega
    · rw [Int.tdiv_neg, Int.tdiv_one]; omega
  · have : a.natAbs / b.natAbs ≤ a.natAbs / 2 := Nat.div_le_div_left (by omega) (by omega)
    omega
theorem tmod_bd (a b : Int) (hb : b ≠ 0) : (a.tmod b).natAbs < b.natAbs := by
  rw [Int.natAbs_tmod]; exact Nat.mod_lt _ (by omega)

theorem ret_two {x y : Int} {b c : Bool} (hx : x = y) (hb : b = c) : Ending.returned (.tuple #[.int .i64 x, .bool b]) = .returned (.tuple #[.int .i64 y, .bool c]) := by rw [hx, hb]

set_option maxHeartbeats 400000 in
theorem quo_zero (a : Int) (w : World) : Calls Tryd.prog 21 #[.int .i64 a, .int .i64 0] w fun e w' => e = .returned (.tuple #[.int .i64 0, .bool false]) ∧ w = w' := by
  go_enter Tryd.func21, Tryd.ntmps21
  go_wp2
  go_ret2
  exact ⟨rfl, rfl⟩
set_option maxHeartbeats 400000 in
theorem quo_out (w : World) : Calls Tryd.prog 21 #[.int .i64 (-9223372036854775808), .int .i64 (-1)] w fun e w' => e = .returned (.tuple #[.int .i64 0, .bool false]) ∧ w = w' := by
  go_enter Tryd.func21, Tryd.ntmps21
  go_wp2
  go_ret2
  exact ⟨rfl, rfl⟩
set_option maxHeartbeats 400000 in
theorem quo_yes (a b : Int) (w : World) (h1 : -9223372036854775808 ≤ a) (h2 : a ≤ 9223372036854775807) (hb : b ≠ 0) (hne : ¬ (a = -9223372036854775808 ∧ b = -1)) :
    Calls Tryd.prog 21 #[.int .i64 a, .int .i64 b] w fun e w' => e = .returned (.tuple #[.int .i64 (a.tdiv b), .bool true]) ∧ w = w' := by
  have hbd := tdiv_bd a b hb h1 h2 hne
  have b0 : (b == 0) = false := by simpa using hb
  by_cases ha : a = -9223372036854775808
  · have b1 : (b == -1) = false := by simp; omega
    have a1 : (a == -9223372036854775808) = true := by simp [ha]
    have HB := Lib.hid ha
    clear ha hne
    go_enter Tryd.func21, Tryd.ntmps21
    go_wp2
    go_ret2
    exact ⟨ret_two (by first | rfl | exact IntWalk.wrap64_in _ hbd) rfl, rfl⟩
  · have a1 : (a == -9223372036854775808) = false := by simpa using ha
    clear hne
    go_enter Tryd.func21, Tryd.ntmps21
    go_wp2
    go_ret2
    exact ⟨ret_two (by first | rfl | exact IntWalk.wrap64_in _ hbd) rfl, rfl⟩

set_option maxHeartbeats 400000 in
theorem rem_zero (a : Int) (w : World) : Calls Tryd.prog 22 #[.int .i64 a, .int .i64 0] w fun e w' => e = .returned (.tuple #[.int .i64 0, .bool false]) ∧ w = w' := by
  go_enter Tryd.func22, Tryd.ntmps22
  go_wp2
  go_ret2
  exact ⟨rfl, rfl⟩
set_option maxHeartbeats 400000 in
theorem rem_yes (a b : Int) (w : World) (h1 : -9223372036854775808 ≤ b) (h2 : b ≤ 9223372036854775807) (hb : b ≠ 0) :
    Calls Tryd.prog 22 #[.int .i64 a, .int .i64 b] w fun e w' => e = .returned (.tuple #[.int .i64 (a.tmod b), .bool true]) ∧ w = w' := by
  have hbd := tmod_bd a b hb
  have b0 : (b == 0) = false := by simpa using hb
  have hbd2 : -9223372036854775808 ≤ a.tmod b ∧ a.tmod b ≤ 9223372036854775807 := by omega
  go_enter Tryd.func22, Tryd.ntmps22
  go_wp2
  go_ret2
  exact ⟨ret_two (by first | rfl | exact IntWalk.wrap64_in _ hbd2) rfl, rfl⟩

set_option maxHeartbeats 400000 in
theorem mod_zero (a : Int) (w : World) : Calls Tryd.prog 23 #[.int .i64 a, .int .i64 0] w fun e w' => e = .returned (.tuple #[.int .i64 0, .bool false]) ∧ w = w' := by
  go_enter Tryd.func23, Tryd.ntmps23
  go_wp2_with fail
  refine (rem_zero a _).mono ?_
  rintro e w' ⟨rfl, rfl⟩
  go_wp2_with fail
  go_ret2
  exact ⟨rfl, rfl⟩
set_option maxHeartbeats 800000 in
theorem mod_core (a b r : Int) (w : World) (H : Hid (∀ w : World, Calls Tryd.prog 22 #[.int .i64 a, .int .i64 b] w fun e w' => e = .returned (.tuple #[.int .i64 r, .bool true]) ∧ w = w'))
    (h1 : -9223372036854775808 ≤ b) (h2 : b ≤ 9223372036854775807) (hlo : -9223372036854775808 ≤ r) (hhi : r ≤ 9223372036854775807) :
    Calls Tryd.prog 23 #[.int .i64 a, .int .i64 b] w fun e w' => e = .returned (.tuple #[.int .i64 (if r ≠ 0 ∧ (r < 0 ↔ ¬ b < 0) then r + b else r), .bool true]) ∧ w = w' := by
  by_cases h0 : r = 0
  · subst h0
    rw [if_neg (by simp)]
    go_enter Tryd.func23, Tryd.ntmps23
    go_wp2_with fail
    refine (H.out _).mono ?_
    rintro e w' ⟨rfl, rfl⟩
    go_wp2_with fail
    go_ret2
    exact ⟨rfl, rfl⟩
  · have h0b : (r != 0) = true := by simpa using h0
    by_cases hr : r < 0 <;> by_cases hs : b < 0
    · rw [if_neg (by omega)]
      have hrB : decide (r < 0) = true := by simp; omega
      have hsB : decide (b < 0) = true := by simp; omega
      go_enter Tryd.func23, Tryd.ntmps23
      go_wp2_with fail
      refine (H.out _).mono ?_
      rintro e w' ⟨rfl, rfl⟩
      go_wp2_with fail
      go_ret2
      exact ⟨rfl, rfl⟩
    · rw [if_pos (by omega)]
      have hrB : decide (r < 0) = true := by simp; omega
      have hsB : decide (b < 0) = false := by simp; omega
      have hlo2 : -9223372036854775808 ≤ r + b := by omega
      have hhi2 : r + b ≤ 9223372036854775807 := by omega
      go_enter Tryd.func23, Tryd.ntmps23
      go_wp2_with fail
      refine (H.out _).mono ?_
      rintro e w' ⟨rfl, rfl⟩
      go_wp2_with fail
      go_ret2
      exact ⟨rfl, rfl⟩
    · rw [if_pos (by omega)]
      have hrB : decide (r < 0) = false := by simp; omega
      have hsB : decide (b < 0) = true := by simp; omega
      have hlo2 : -9223372036854775808 ≤ r + b := by omega
      have hhi2 : r + b ≤ 9223372036854775807 := by omega
      go_enter Tryd.func23, Tryd.ntmps23
      go_wp2_with fail
      refine (H.out _).mono ?_
      rintro e w' ⟨rfl, rfl⟩
      go_wp2_with fail
      go_ret2
      exact ⟨rfl, rfl⟩
    · rw [if_neg (by omega)]
      have hrB : decide (r < 0) = false := by simp; omega
      have hsB : decide (b < 0) = false := by simp; omega
      go_enter Tryd.func23, Tryd.ntmps23
      go_wp2_with fail
      refine (H.out _).mono ?_
      rintro e w' ⟨rfl, rfl⟩
      go_wp2_with fail
      go_ret2
      exact ⟨rfl, rfl⟩
theorem mod_yes (a b : Int) (w : World) (h1 : -9223372036854775808 ≤ b) (h2 : b ≤ 9223372036854775807) (hb : b ≠ 0) :
    Calls Tryd.prog 23 #[.int .i64 a, .int .i64 b] w fun e w' => e = .returned (.tuple #[.int .i64 (modV a b), .bool true]) ∧ w = w' :=
  mod_core a b (a.tmod b) w (fun w => rem_yes a b w h1 h2 hb) h1 h2 (by have := tmod_bd a b hb; omega) (by have := tmod_bd a b hb; omega)

/-- Where a product wraps and the quotient still fits, the product fitted. -/
theorem mul_back {a b p : Int} (hb : b ≠ 0) (h1 : -9223372036854775808 ≤ b) (h2 : b ≤ 9223372036854775807) (hp : p = wrap64 (a * b)) (hq : p.tdiv b = a) : p = a * b := by
  have e := Int.mul_tdiv_add_tmod p b
  have hm := tmod_bd p b hb
  rw [hq, Int.mul_comm] at e
  unfold wrap64 at hp
  generalize a * b = n at *
  omega

theorem sign_mul {a b : Int} (ha : a ≠ 0) (hb : b ≠ 0) : decide (a * b < 0) = (!(decide (a < 0) == decide (b < 0))) := by
  by_cases h1 : a < 0 <;> by_cases h2 : b < 0
  · have : 0 < a * b := Int.mul_pos_of_neg_of_neg h1 h2
    simp [h1, h2]; omega
  · have : a * b < 0 := Int.mul_neg_of_neg_of_pos h1 (by omega)
    simp [h1, h2, this]
  · have : a * b < 0 := Int.mul_neg_of_pos_of_neg (by omega) h2
    simp [h1, h2, this]
  · have : 0 < a * b := Int.mul_pos (by omega) (by omega)
    simp [h1, h2]; omega
theorem mul_no1 {a b : Int} (ha : a ≠ 0) (hb : b ≠ 0) (h : ¬ decide (wrap64 (a * b) < 0) = (!(decide (a < 0) == decide (b < 0)))) : ¬ Is64 (a * b) := by
  intro hf
  rw [IntWalk.wrap64_in _ hf] at h
  exact h (sign_mul ha hb)
theorem mul_no2 {a b : Int} (hb : b ≠ 0) (h1 : -9223372036854775808 ≤ a) (h2 : a ≤ 9223372036854775807) (h : (wrap64 ((wrap64 (a * b)).tdiv b) != a) = true) : ¬ Is64 (a * b) := by
  intro hf
  rw [IntWalk.wrap64_in _ hf, Int.mul_tdiv_cancel _ hb, IntWalk.wrap64_in _ ⟨h1, h2⟩] at h
  simp at h
theorem mul_yes3 {a b : Int} (_ha : a ≠ 0) (hb : b ≠ 0) (h3 : -9223372036854775808 ≤ b) (h4 : b ≤ 9223372036854775807)
    (hs : decide (wrap64 (a * b) < 0) = (!(decide (a < 0) == decide (b < 0)))) (h : (wrap64 ((wrap64 (a * b)).tdiv b) != a) = false) : wrap64 (a * b) = a * b := by
  have hq : wrap64 ((wrap64 (a * b)).tdiv b) = a := by simpa using h
  by_cases hc : wrap64 (a * b) = -9223372036854775808 ∧ b = -1
  · obtain ⟨hc1, rfl⟩ := hc
    rw [hc1] at hq hs
    have hq2 : (-9223372036854775808 : Int).tdiv (-1) = 9223372036854775808 := by decide
    rw [hq2] at hq
    unfold wrap64 at hq
    have : a = -9223372036854775808 := by omega
    subst this
    simp at hs
  · have hp : -9223372036854775808 ≤ wrap64 (a * b) ∧ wrap64 (a * b) ≤ 9223372036854775807 := by unfold wrap64; omega
    have hbd := tdiv_bd (wrap64 (a * b)) b hb hp.1 hp.2 hc
    rw [IntWalk.wrap64_in _ hbd] at hq
    exact mul_back hb h3 h4 rfl hq

set_option maxHeartbeats 800000 in
theorem mul_any (a b : Int) (w : World) (h1 : -9223372036854775808 ≤ a) (h2 : a ≤ 9223372036854775807) (h3 : -9223372036854775808 ≤ b) (h4 : b ≤ 9223372036854775807) :
    Calls Tryd.prog 19 #[.int .i64 a, .int .i64 b] w fun e w' => e = .returned (.tuple #[.int .i64 (fitV (a * b)), .bool (fitB (a * b))]) ∧ w = w' := by
  by_cases ha : a = 0
  · subst ha
    rw [Int.zero_mul]
    go_enter Tryd.func19, Tryd.ntmps19
    go_wp2
    go_ret2
    exact ⟨rfl, rfl⟩
  · by_cases hb : b = 0
    · subst hb
      rw [Int.mul_zero]
      have a0 : (a == 0) = false := by simpa using ha
      go_enter Tryd.func19, Tryd.ntmps19
      go_wp2
      go_ret2
      exact ⟨rfl, rfl⟩
    · have a0 : (a == 0) = false := by simpa using ha
      have b0 : (b == 0) = false := by simpa using hb
      go_enter Tryd.func19, Tryd.ntmps19
      go_wp2
      all_goals go_ret2
      · exact ⟨ret_no (mul_no1 ha hb ‹_›), rfl⟩
      · exact ⟨ret_no (mul_no2 hb h1 h2 ‹_›), rfl⟩
      · have hm := mul_yes3 ha hb h3 h4 ‹_› ‹_›
        exact ⟨ret_yes (by unfold Is64; rw [← hm]; unfold wrap64; omega) hm, rfl⟩

end Go.Proofs.YtfjoahbboglgfaaDoor
