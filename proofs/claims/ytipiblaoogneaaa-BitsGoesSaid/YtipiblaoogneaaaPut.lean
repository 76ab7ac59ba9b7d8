/- What a put and a drop make of a set: all cases. -/
import Derived.Test.YtipiblaoogneaaaHas
namespace Go.Proofs.Ytipiblaoogneaaa
open Go.RowKit

set_option maxHeartbeats 800000 in
theorem put_not {w : World} {g b n : Nat} {f : Nat → Bool} (h : Sat w g b n f) (x : Int) (hx : newI n f x = false) : Calls Try.prog 12 #[.pointer (some ⟨g, 0, none⟩), .int .i64 x] w fun e w' => e = .returned (.bool false) ∧ Below w.heap.size w w' := by
  have H := Lib.hid h
  clear h
  by_cases hin : 0 ≤ x ∧ x < (n : Int)
  · have hd1 : decide ((0 : Int) ≤ x) = true := decide_eq_true hin.1
    have hd2 : decide (x < (n : Int)) = true := decide_eq_true hin.2
    have hh : hasI f x = true := by unfold newI at hx; rw [decide_eq_true hin] at hx; simpa using hx
    go_enter Try.func12, Try.ntmps12
    go_wp2_with (go_at_call 30; refine (reach_any H.out _).mono ?_; rintro e w7 ⟨rfl, rfl⟩)
    refine (has_any H.out x).mono ?_
    rintro e w7 ⟨rfl, hb7⟩
    rw [hh]
    go_wp2_with fail
    go_ret
    exact ⟨rfl, hb7⟩
  · have hr : (decide (0 ≤ x) && decide (x < (n : Int))) = false := by
      by_cases h0 : 0 ≤ x
      · rw [decide_eq_false (show ¬ x < (n : Int) by omega), Bool.and_false]
      · rw [decide_eq_false h0, Bool.false_and]
    have HR := Lib.hid (reach_any H.out x)
    rw [hr] at HR
    go_enter Try.func12, Try.ntmps12
    go_wp2_with (go_at_call 30; refine (HR.out).mono ?_; rintro e w7 ⟨rfl, rfl⟩)
    go_ret
    exact ⟨rfl, Below.refl _ _⟩
/-- Put. -/
theorem put_any {w : World} {g b n : Nat} {f : Nat → Bool} (h : Sat w g b n f) (x : Int) : Calls Try.prog 12 #[.pointer (some ⟨g, 0, none⟩), .int .i64 x] w fun e w' => e = .returned (.bool (newI n f x)) ∧ Sat w' g b n (putI n f x) ∧ Only b w w' := by
  cases hx : newI n f x with
  | false =>
    refine (put_not h x hx).mono ?_
    rintro e w' ⟨rfl, hb⟩
    refine ⟨rfl, ?_, Only.of_below hb⟩
    have e : putI n f x = f := by
      unfold putI
      by_cases hin : 0 ≤ x ∧ x < (n : Int)
      · rw [if_pos hin]
        have hh : hasI f x = true := by unfold newI at hx; rw [decide_eq_true hin] at hx; simpa using hx
        have h2 : f x.toNat = true := by unfold hasI at hh; rw [decide_eq_true hin.1] at hh; simpa using hh
        funext j
        by_cases hj : j = x.toNat
        · subst hj; rw [upd_same, h2]
        · rw [upd_other _ _ _ _ hj]
      · rw [if_neg hin]
    rw [e]; exact h.below hb
  | true =>
    unfold newI at hx
    simp only [Bool.and_eq_true, decide_eq_true_eq, Bool.not_eq_true'] at hx
    obtain ⟨hin, hh⟩ := hx
    obtain ⟨i, rfl⟩ := Int.eq_ofNat_of_zero_le hin.1
    rw [hasI_nat] at hh
    refine (put_new h i (by omega) hh).mono ?_
    rintro e w' ⟨rfl, hs, ho⟩
    refine ⟨rfl, ?_, ho⟩
    unfold putI
    rw [if_pos hin, Int.toNat_natCast]; exact hs

set_option maxHeartbeats 1600000 in
theorem drop_new {w : World} {g b n : Nat} {f : Nat → Bool} (h : Sat w g b n f) (i : Nat) (hi : i < n) (hf : f i = true) : Calls Try.prog 13 #[.pointer (some ⟨g, 0, none⟩), .int .i64 (i : Int)] w fun e w' => e = .returned (.bool true) ∧ Sat w' g b n (upd f i false) ∧ Only b w w' := by
  have hle := h.le
  have hq := need_get hi
  have hm := need_le hle
  have H := Lib.hid h
  clear h
  go_enter Try.func13, Try.ntmps13
  go_wp2_with fail
  refine (has_in H.out i hi).mono ?_
  rintro e w7 ⟨rfl, hb7⟩
  rw [hf]
  have H7 := Lib.hid (H.out.below hb7)
  have HB7 := Lib.hid hb7
  have l1 := H7.out.c1
  have l2 := H7.out.byte _ hq
  have fz := H7.out.row.fz (i / 8)
  have hdiv : (i : Int) / 8 = ((i / 8 : Nat) : Int) := by omega
  have hb := byt_lt f (i / 8)
  have hp := pow8_lt i
  have hor : bits .andNot .u8 (byt f (i / 8) : Int) ((2 ^ (i % 8) : Nat) : Int) = (byt (upd f i false) (i / 8) : Int) := by rw [u8_andNot_nat _ _ hb hp, byt_andNot]
  have HS := Lib.hid (H7.out.set hi false)
  have HO : Hid (Only b w (w7.setCell ⟨b, i / 8, none⟩ (.int .u8 (byt (upd f i false) (i / 8) : Int)))) := Lib.hid ((Only.of_below HB7.out).trans (Only.setCell b _ _ w7))
  have hT : IntKind.i64.wrap (Int.tdiv (i : Int) 8) = ((i / 8 : Nat) : Int) := by rw [Int.tdiv_eq_ediv_of_nonneg (by omega), IntKind.wrap_i64]; omega
  have hT2 : Int.tdiv (i : Int) 8 = ((i / 8 : Nat) : Int) := by rw [Int.tdiv_eq_ediv_of_nonneg (by omega)]; omega
  have hT3 : IntKind.i64.wrap ((i / 8 : Nat) : Int) = ((i / 8 : Nat) : Int) := by rw [IntKind.wrap_i64]; omega
  clear hb7 HB7 H7
  generalize byt (upd f i false) (i / 8) = y2 at *
  generalize byt f (i / 8) = y at *
  have HB := Lib.hid (fun w => bit_any i w (by omega))
  generalize hw2 : (2 ^ (i % 8) : Nat) = z at *
  generalize i / 8 = q at *
  generalize need n = m at *
  go_wp2_with fail
  go_region_with (go_at_call 31; refine (HB.out _).mono ?_; rintro e w9 ⟨rfl, rfl⟩)
  all_goals
    go_wp2_with fail
    go_ret
    exact ⟨rfl, HS.out.drew, HO.out.drew⟩
set_option maxHeartbeats 800000 in
theorem drop_not {w : World} {g b n : Nat} {f : Nat → Bool} (h : Sat w g b n f) (x : Int) (hx : hasI f x = false) : Calls Try.prog 13 #[.pointer (some ⟨g, 0, none⟩), .int .i64 x] w fun e w' => e = .returned (.bool false) ∧ Below w.heap.size w w' := by
  have H := Lib.hid h
  clear h
  go_enter Try.func13, Try.ntmps13
  go_wp2_with fail
  refine (has_any H.out x).mono ?_
  rintro e w7 ⟨rfl, hb7⟩
  rw [hx]
  go_wp2_with fail
  go_ret
  exact ⟨rfl, hb7⟩
/-- Drop. -/
theorem drop_any {w : World} {g b n : Nat} {f : Nat → Bool} (h : Sat w g b n f) (x : Int) : Calls Try.prog 13 #[.pointer (some ⟨g, 0, none⟩), .int .i64 x] w fun e w' => e = .returned (.bool (hasI f x)) ∧ Sat w' g b n (dropI f x) ∧ Only b w w' := by
  cases hx : hasI f x with
  | false =>
    refine (drop_not h x hx).mono ?_
    rintro e w' ⟨rfl, hb⟩
    refine ⟨rfl, ?_, Only.of_below hb⟩
    unfold dropI
    rw [hx, if_neg (by decide)]; exact h.below hb
  | true =>
    by_cases hin : 0 ≤ x ∧ x < (n : Int)
    · obtain ⟨i, rfl⟩ := Int.eq_ofNat_of_zero_le hin.1
      unfold dropI
      rw [hx, if_pos rfl, Int.toNat_natCast]
      rw [hasI_nat] at hx
      exact drop_new h i (by omega) hx
    · rw [hasI_out h.sub hin] at hx; cases hx
end Go.Proofs.Ytipiblaoogneaaa
