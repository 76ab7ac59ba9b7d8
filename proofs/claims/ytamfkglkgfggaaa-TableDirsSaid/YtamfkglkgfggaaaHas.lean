/- Whether a set has a number; a number put into it, and taken out. -/
import Derived.Test.YtamfkglkgfggaaaIn
namespace Go.Proofs.Ytamfkglkgfggaaa
open Go.RowKit

/-- Has a set a number? -/
def hasI (f : Nat → Bool) (x : Int) : Bool := decide (0 ≤ x) && f x.toNat
theorem hasI_nat (f : Nat → Bool) (i : Nat) : hasI f (i : Int) = f i := by unfold hasI; simp
theorem hasI_out {f : Nat → Bool} {n : Nat} {x : Int} (hs : Sub n f) (h : ¬ (0 ≤ x ∧ x < (n : Int))) : hasI f x = false := by
  unfold hasI
  by_cases h0 : 0 ≤ x
  · rw [hs x.toNat (by omega), Bool.and_false]
  · rw [decide_eq_false h0, Bool.false_and]
theorem need_get {n i : Nat} (h : i < n) : i / 8 < need n := by unfold need; omega
theorem and_test (f : Nat → Bool) (i : Nat) : (bits .and .u8 (byt f (i / 8) : Int) ((2 ^ (i % 8) : Nat) : Int) != 0) = f i := by
  have hp : 2 ^ (i % 8) < 256 := Nat.lt_of_lt_of_le (Nat.pow_lt_pow_right (by decide) (Nat.mod_lt i (by decide : 0 < 8))) (by decide)
  have h0 : 0 < 2 ^ (i % 8) := Nat.pow_pos (by decide)
  rw [u8_and_nat _ _ (byt_lt f _) hp, byt_and]
  cases f i
  · simp
  · simp only [Bool.toNat_true, Nat.one_mul]
    generalize 2 ^ (i % 8) = z at *
    simp
    omega
theorem pow8_lt (i : Nat) : 2 ^ (i % 8) < 256 := Nat.lt_of_lt_of_le (Nat.pow_lt_pow_right (by decide) (Nat.mod_lt i (by decide : 0 < 8))) (by decide)
set_option maxHeartbeats 800000 in
theorem has_in {w : World} {g b n : Nat} {f : Nat → Bool} (h : Sat w g b n f) (i : Nat) (hi : i < n) : Calls Try.prog 44 #[.pointer (some ⟨g, 0, none⟩), .int .i64 (i : Int)] w fun e w' => e = .returned (.bool (f i)) ∧ Below w.heap.size w w' := by
  have H := Lib.hid h
  have hd1 : decide ((0 : Int) ≤ (i : Int)) = true := decide_eq_true (by omega)
  have hd2 : decide ((i : Int) < (n : Int)) = true := decide_eq_true (by omega)
  have hle := h.le
  have hq := need_get hi
  have hm := need_le hle
  have l1 : ∀ s : In w, s.1.cell? ⟨g, 1, none⟩ = some (.slice (some ⟨b, 0, none⟩) (need n) (need n)) := fun s => (H.out.below s.2).c1
  have l2 : ∀ s : In w, s.1.cell? ⟨b, i / 8, none⟩ = some (.int .u8 (byt f (i / 8) : Int)) := fun s => (H.out.below s.2).byte _ hq
  have HR : Hid (∀ s : In w, Calls Try.prog 43 #[.pointer (some ⟨g, 0, none⟩), .int .i64 (i : Int)] s.1 fun e w' => e = .returned (.bool true) ∧ s.1 = w') := Lib.hid fun s => by
    have := reach_any (H.out.below s.2) (i : Int)
    rwa [hd1, hd2, Bool.and_true] at this
  have hdiv : (i : Int) / 8 = ((i / 8 : Nat) : Int) := by omega
  have ht := and_test f i
  have hb := byt_lt f (i / 8)
  have hp := pow8_lt i
  clear h
  generalize byt f (i / 8) = y at *
  generalize hw2 : (2 ^ (i % 8) : Nat) = z at *
  have HB : Hid (∀ s : In w, Calls Try.prog 45 #[.int .i64 (i : Int)] s.1 fun e w' => e = .returned (.int .u8 (z : Int)) ∧ s.1 = w') := Lib.hid fun s => by
    have := bit_any i s.1 (by omega)
    rwa [hw2] at this
  generalize i / 8 = q at *
  generalize need n = m at *
  go_enter Try.func44, Try.ntmps44
  have hne := In.some w
  go_upto_region 1 with fail
  refine region_in w (by kernel_rfl) (by kernel_rfl) (Below.refl _ _) ?_
  repeat (go_big_quiet_step ((first
    | (go_at_call 43; exact Calls.quiet_in_same (HR.out _))
    | (go_at_call 45; exact Calls.quiet_in_same (HB.out _)))))
  refine wpQuiet_nil ?_
  intro w12 hw'
  have hb12 : Below w.heap.size w w12 := by
    obtain ⟨⟨wz, hbz⟩, hw''⟩ := hw'
    subst hw''
    exact hbz
  clear hw'
  go_wp2_with fail
  go_ret
  exact ⟨rfl, hb12⟩
set_option maxHeartbeats 800000 in
theorem has_out {w : World} {g b n : Nat} {f : Nat → Bool} (h : Sat w g b n f) (x : Int) (hx : ¬ (0 ≤ x ∧ x < (n : Int))) : Calls Try.prog 44 #[.pointer (some ⟨g, 0, none⟩), .int .i64 x] w fun e w' => e = .returned (.bool false) ∧ Below w.heap.size w w' := by
  have HR : Hid (∀ s : In w, Calls Try.prog 43 #[.pointer (some ⟨g, 0, none⟩), .int .i64 x] s.1 fun e w' => e = .returned (.bool false) ∧ s.1 = w') := Lib.hid fun s => by
    have := reach_any (h.below s.2) x
    have e : (decide (0 ≤ x) && decide (x < (n : Int))) = false := by
      by_cases h0 : 0 ≤ x
      · rw [decide_eq_false (show ¬ x < (n : Int) by omega), Bool.and_false]
      · rw [decide_eq_false h0, Bool.false_and]
    rwa [e] at this
  clear h
  go_enter Try.func44, Try.ntmps44
  have hne := In.some w
  go_upto_region 1 with fail
  refine region_in w (by kernel_rfl) (by kernel_rfl) (Below.refl _ _) ?_
  repeat (go_big_quiet_step ((go_at_call 43; exact Calls.quiet_in_same (HR.out _))))
  refine wpQuiet_nil ?_
  intro w12 hw'
  have hb12 : Below w.heap.size w w12 := by
    obtain ⟨⟨wz, hbz⟩, hw''⟩ := hw'
    subst hw''
    exact hbz
  clear hw'
  go_wp2_with fail
  go_ret
  exact ⟨rfl, hb12⟩
theorem has_any {w : World} {g b n : Nat} {f : Nat → Bool} (h : Sat w g b n f) (x : Int) : Calls Try.prog 44 #[.pointer (some ⟨g, 0, none⟩), .int .i64 x] w fun e w' => e = .returned (.bool (hasI f x)) ∧ Below w.heap.size w w' := by
  by_cases hx : 0 ≤ x ∧ x < (n : Int)
  · obtain ⟨i, rfl⟩ := Int.eq_ofNat_of_zero_le hx.1
    rw [hasI_nat f i]
    exact has_in h i (by have := hx.2; simp at this; omega)
  · rw [hasI_out h.sub hx]
    exact has_out h x hx

/-- What a put makes of a set. -/
def putI (n : Nat) (f : Nat → Bool) (x : Int) : Nat → Bool := if 0 ≤ x ∧ x < (n : Int) then upd f x.toNat true else f
/-- Does a put change a set? -/
def newI (n : Nat) (f : Nat → Bool) (x : Int) : Bool := decide (0 ≤ x ∧ x < (n : Int)) && !hasI f x
/-- What a drop makes of a set. -/
def dropI (f : Nat → Bool) (x : Int) : Nat → Bool := if hasI f x = true then upd f x.toNat false else f
set_option maxHeartbeats 1600000 in
theorem put_new {w : World} {g b n : Nat} {f : Nat → Bool} (h : Sat w g b n f) (i : Nat) (hi : i < n) (hf : f i = false) : Calls Try.prog 20 #[.pointer (some ⟨g, 0, none⟩), .int .i64 (i : Int)] w fun e w' => e = .returned (.bool true) ∧ Sat w' g b n (upd f i true) ∧ Only b w w' := by
  have hd1 : decide ((0 : Int) ≤ (i : Int)) = true := decide_eq_true (by omega)
  have hd2 : decide ((i : Int) < (n : Int)) = true := decide_eq_true (by omega)
  have hle := h.le
  have hq := need_get hi
  have hm := need_le hle
  have H := Lib.hid h
  clear h
  go_enter Try.func20, Try.ntmps20
  go_wp2_with (go_at_call 43; refine (reach_any H.out _).mono ?_; rintro e w7 ⟨rfl, rfl⟩)
  refine (has_in H.out i hi).mono ?_
  rintro e w7 ⟨rfl, hb7⟩
  rw [hf]
  have H7 := Lib.hid (H.out.below hb7)
  have HB7 := Lib.hid hb7
  have l1 := H7.out.c1
  have l2 := H7.out.byte _ hq
  have fz := H7.out.row.fz (i / 8)
  have hdiv : (i : Int) / 8 = ((i / 8 : Nat) : Int) := by omega
  have hb := byt_lt f (i / 8)
  have hp := pow8_lt i
  have hor : bits .or .u8 (byt f (i / 8) : Int) ((2 ^ (i % 8) : Nat) : Int) = (byt (upd f i true) (i / 8) : Int) := by rw [u8_or_nat _ _ hb hp, byt_or]
  have HS := Lib.hid (H7.out.set hi true)
  have HO : Hid (Only b w (w7.setCell ⟨b, i / 8, none⟩ (.int .u8 (byt (upd f i true) (i / 8) : Int)))) := Lib.hid ((Only.of_below HB7.out).trans (Only.setCell b _ _ w7))
  have hT : IntKind.i64.wrap (Int.tdiv (i : Int) 8) = ((i / 8 : Nat) : Int) := by rw [Int.tdiv_eq_ediv_of_nonneg (by omega), IntKind.wrap_i64]; omega
  have hT2 : Int.tdiv (i : Int) 8 = ((i / 8 : Nat) : Int) := by rw [Int.tdiv_eq_ediv_of_nonneg (by omega)]; omega
  have hT3 : IntKind.i64.wrap ((i / 8 : Nat) : Int) = ((i / 8 : Nat) : Int) := by rw [IntKind.wrap_i64]; omega
  clear hb7 HB7 H7
  generalize byt (upd f i true) (i / 8) = y2 at *
  generalize byt f (i / 8) = y at *
  have HB := Lib.hid (fun w => bit_any i w (by omega))
  generalize hw2 : (2 ^ (i % 8) : Nat) = z at *
  generalize i / 8 = q at *
  generalize need n = m at *
  go_wp2_with fail
  go_region_with (go_at_call 45; refine (HB.out _).mono ?_; rintro e w9 ⟨rfl, rfl⟩)
  all_goals
    go_wp2_with fail
    go_ret
    exact ⟨rfl, HS.out.drew, HO.out.drew⟩
end Go.Proofs.Ytamfkglkgfggaaa
