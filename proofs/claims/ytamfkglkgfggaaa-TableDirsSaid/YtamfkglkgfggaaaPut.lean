/- What a put and a drop make of a set: all cases. -/
import Derived.Test.YtamfkglkgfggaaaHas
namespace Go.Proofs.Ytamfkglkgfggaaa
open Go.RowKit

set_option maxHeartbeats 800000 in
theorem put_not {w : World} {g b n : Nat} {f : Nat → Bool} (h : Sat w g b n f) (x : Int) (hx : newI n f x = false) : Calls Try.prog 20 #[.pointer (some ⟨g, 0, none⟩), .int .i64 x] w fun e w' => e = .returned (.bool false) ∧ Below w.heap.size w w' := by
  have H := Lib.hid h
  clear h
  by_cases hin : 0 ≤ x ∧ x < (n : Int)
  · have hd1 : decide ((0 : Int) ≤ x) = true := decide_eq_true hin.1
    have hd2 : decide (x < (n : Int)) = true := decide_eq_true hin.2
    have hh : hasI f x = true := by unfold newI at hx; rw [decide_eq_true hin] at hx; simpa using hx
    go_enter Try.func20, Try.ntmps20
    go_wp2_with (go_at_call 43; refine (reach_any H.out _).mono ?_; rintro e w7 ⟨rfl, rfl⟩)
    refine (has_any H.out x).mono ?_
    rintro e w7 ⟨rfl, hb7⟩
    rw [hh]
    go_wp2_with fail
    go_ret
    exact ⟨rfl, hb7⟩
  · have hr : (decide (0 ≤ x) && decide (x < (n : Int))) = false := by
      by_cases h0 : 0 ≤ x
      · rw [decide_eq_false (show ¬ x < (n : Int) by omega), Bool.and_false]
      · rw [decide_eq_false h0, Bool.false_and]
    have HR := Lib.hid (reach_any H.out x)
    rw [hr] at HR
    go_enter Try.func20, Try.ntmps20
    go_wp2_with (go_at_call 43; refine (HR.out).mono ?_; rintro e w7 ⟨rfl, rfl⟩)
    go_ret
    exact ⟨rfl, Below.refl _ _⟩
/-- Put. -/
theorem put_any {w : World} {g b n : Nat} {f : Nat → Bool} (h : Sat w g b n f) (x : Int) : Calls Try.prog 20 #[.pointer (some ⟨g, 0, none⟩), .int .i64 x] w fun e w' => e = .returned (.bool (newI n f x)) ∧ Sat w' g b n (putI n f x) ∧ Only b w w' := by
  cases hx : newI n f x with
  | false =>
    refine (put_not h x hx).mono ?_
    rintro e w' ⟨rfl, hb⟩
    refine ⟨rfl, ?_, Only.of_below hb⟩
    have e : putI n f x = f := by
      unfold putI
      by_cases hin : 0 ≤ x ∧ x < (n : Int)
      · rw [if_pos hin]
        have hh : hasI f x = true := by unfold newI at hx; rw [decide_eq_true hin] at hx; simpa using hx
        have h2 : f x.toNat = true := by unfold hasI at hh; rw [decide_eq_true hin.1] at hh; simpa using hh
        funext j
        by_cases hj : j = x.toNat
        · subst hj; rw [upd_same, h2]
        · rw [upd_other _ _ _ _ hj]
      · rw [if_neg hin]
    rw [e]; exact h.below hb
  | true =>
    unfold newI at hx
    simp only [Bool.and_eq_true, decide_eq_true_eq, Bool.not_eq_true'] at hx
    obtain ⟨hin, hh⟩ := hx
    obtain ⟨i, rfl⟩ := Int.eq_ofNat_of_zero_le hin.1
    rw [hasI_nat] at hh
    refine (put_new h i (by omega) hh).mono ?_
    rintro e w' ⟨rfl, hs, ho⟩
    refine ⟨rfl, ?_, ho⟩
    unfold putI
    rw [if_pos hin, Int.toNat_natCast]; exact hs

end Go.Proofs.Ytamfkglkgfggaaa
