/- What one of two sets has, and what one has and the other one hasn't; are two sets the same? -/
import Derived.Test.YtipiblaoogneaaaOf
namespace Go.Proofs.Ytipiblaoogneaaa
open Go.RowKit

theorem or_any (x y : Nat) (w : World) (hx : x < 256) (hy : y < 256) : Calls Try.prog 44 #[.int .u8 (x : Int), .int .u8 (y : Int)] w fun e w' => e = .returned (.int .u8 ((x ||| y : Nat) : Int)) ∧ w = w' := by
  have h := u8_or_nat x y hx hy
  go_enter Try.func44, Try.ntmps44
  go_wp2_with fail
  go_ret
  exact ⟨rfl, rfl⟩
theorem less_any (x y : Nat) (w : World) (hx : x < 256) (hy : y < 256) : Calls Try.prog 45 #[.int .u8 (x : Int), .int .u8 (y : Int)] w fun e w' => e = .returned (.int .u8 ((x &&& (255 - y) : Nat) : Int)) ∧ w = w' := by
  have h := u8_andNot_nat x y hx hy
  go_enter Try.func45, Try.ntmps45
  go_wp2_with fail
  go_ret
  exact ⟨rfl, rfl⟩
/-- Truths, one by one of two rows. -/
def both (t : Bool) (f k : Nat → Bool) : Nat → Bool := fun i => if t then f i || k i else f i && !k i
/-- Bytes, likewise. -/
def join (t : Bool) (x y : Nat) : Nat := if t then x ||| y else x &&& (255 - y)
theorem join_lt (t : Bool) (x y : Nat) (hx : x < 256) (hy : y < 256) : join t x y < 256 := by
  unfold join
  cases t
  · exact Nat.lt_of_le_of_lt Nat.and_le_left hx
  · exact Nat.or_lt_two_pow (n := 8) hx hy
theorem not_bit (y k : Nat) (hy : y < 256) (hk : k < 8) : (255 - y).testBit k = !y.testBit k := by
  have : ∀ (y : Fin 256) (k : Fin 8), (255 - y.val).testBit k.val = !y.val.testBit k.val := by decide +kernel
  exact this ⟨y, hy⟩ ⟨k, hk⟩
theorem byt_join (t : Bool) (f k : Nat → Bool) (j : Nat) : join t (byt f j) (byt k j) = byt (both t f k) j := by
  apply Nat.eq_of_testBit_eq
  intro i
  unfold join
  rw [byt_bit]
  unfold both
  by_cases hi : i < 8
  · rw [decide_eq_true hi, Bool.true_and]
    cases t
    · simp only [Bool.false_eq_true, if_false]
      rw [Nat.testBit_and, not_bit _ _ (byt_lt _ _) hi, byt_bit, byt_bit, decide_eq_true hi, Bool.true_and, Bool.true_and]
    · simp only [if_true]
      rw [Nat.testBit_or, byt_bit, byt_bit, decide_eq_true hi, Bool.true_and, Bool.true_and]
  · rw [decide_eq_false hi, Bool.false_and]
    cases t
    · simp only [Bool.false_eq_true, if_false]
      rw [Nat.testBit_and, byt_bit, decide_eq_false hi, Bool.false_and, Bool.false_and]
    · simp only [if_true]
      rw [Nat.testBit_or, byt_bit, byt_bit, decide_eq_false hi]; rfl
/-- The function that puts two bytes together. -/
def joinFn (t : Bool) : Nat := if t then 44 else 45
theorem join_any (t : Bool) (x y : Nat) (w : World) (hx : x < 256) (hy : y < 256) : Calls Try.prog (joinFn t) #[.int .u8 (x : Int), .int .u8 (y : Int)] w fun e w' => e = .returned (.int .u8 ((join t x y : Nat) : Int)) ∧ w = w' := by
  cases t
  · exact less_any x y w hx hy
  · exact or_any x y w hx hy
set_option maxHeartbeats 1600000 in
theorem same_any {w : World} {g b n g2 b2 m : Nat} {f k : Nat → Bool} (h : Sat w g b n f) (h2 : Sat w g2 b2 m k) :
    Calls Try.prog 25 #[.pointer (some ⟨g, 0, none⟩), .pointer (some ⟨g2, 0, none⟩)] w fun e w' => e = .returned (.bool (decide (n = m ∧ rowF f (need n) = rowF k (need m)))) ∧ Below w.heap.size w w' := by
  have l0 : ∀ s : In w, s.1.cell? ⟨g, 0, none⟩ = some (.int .i64 (n : Int)) := fun s => (h.below s.2).c0
  have l1 : ∀ s : In w, s.1.cell? ⟨g, 1, none⟩ = some (.slice (some ⟨b, 0, none⟩) (need n) (need n)) := fun s => (h.below s.2).c1
  have l2 : ∀ s : In w, s.1.cell? ⟨g2, 0, none⟩ = some (.int .i64 (m : Int)) := fun s => (h2.below s.2).c0
  have l3 : ∀ s : In w, s.1.cell? ⟨g2, 1, none⟩ = some (.slice (some ⟨b2, 0, none⟩) (need m) (need m)) := fun s => (h2.below s.2).c1
  have HE : Hid (∀ s : In w, Calls Try.prog 37 #[.slice (some ⟨b, 0, none⟩) (need n) (need n), .slice (some ⟨b2, 0, none⟩) (need m) (need m)] s.1 fun e w' => e = .returned (.bool (decide (rowF f (need n) = rowF k (need m)))) ∧ s.1 = w') := Lib.hid fun s => equal_any _ _ _ _ _ _ _ _ _ (h.below s.2).bys (h2.below s.2).bys
  clear h h2
  have hne := In.some w
  by_cases hnm : n = m
  · have he : ((n : Int) == (m : Int)) = true := by rw [hnm]; simp
    have hd : decide (n = m ∧ rowF f (need n) = rowF k (need m)) = decide (rowF f (need n) = rowF k (need m)) := by
      by_cases hr : rowF f (need n) = rowF k (need m)
      · rw [decide_eq_true hr, decide_eq_true ⟨hnm, hr⟩]
      · rw [decide_eq_false hr, decide_eq_false (fun h => hr h.2)]
    rw [hd]
    generalize decide (rowF f (need n) = rowF k (need m)) = v at *
    clear hnm hd
    go_enter Try.func25, Try.ntmps25
    go_upto_region 3 with fail
    refine region_in w (by kernel_rfl) (by kernel_rfl) (Below.refl _ _) ?_
    repeat (go_big_quiet_step ((go_at_call 37; exact Calls.quiet_in_same (HE.out _))))
    refine wpQuiet_nil ?_
    intro w12 hw'
    have hb12 : Below w.heap.size w w12 := by
      obtain ⟨⟨wz, hbz⟩, hw''⟩ := hw'
      subst hw''
      exact hbz
    clear hw'
    go_wp2_with fail
    go_ret
    exact ⟨rfl, hb12⟩
  · have he : ((n : Int) == (m : Int)) = false := by simp; omega
    rw [decide_eq_false (fun h => hnm h.1)]
    clear hnm HE
    go_enter Try.func25, Try.ntmps25
    go_upto_region 3 with fail
    refine region_in w (by kernel_rfl) (by kernel_rfl) (Below.refl _ _) ?_
    repeat (go_big_quiet_step (fail))
    refine wpQuiet_nil ?_
    intro w12 hw'
    have hb12 : Below w.heap.size w w12 := by
      obtain ⟨⟨wz, hbz⟩, hw''⟩ := hw'
      subst hw''
      exact hbz
    clear hw'
    go_wp2_with fail
    go_ret
    exact ⟨rfl, hb12⟩
end Go.Proofs.Ytipiblaoogneaaa
