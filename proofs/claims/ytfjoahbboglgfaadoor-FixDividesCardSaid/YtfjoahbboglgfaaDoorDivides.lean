/- The law FixDivides returns true for any three numbers. -/
import Derived.Test.YtfjoahbboglgfaaDoorLaw
namespace Go.Proofs.YtfjoahbboglgfaaDoor
open Go.ChangeShapes Go.WideShapes Go.ChangeAt Go.RowKit

theorem gcd_yes (a b : Int) (g : Nat) (w : World) (h1 : -9223372036854775808 ≤ a) (h2 : a ≤ 9223372036854775807) (h3 : -9223372036854775808 ≤ b) (h4 : b ≤ 9223372036854775807) (hg : Hid (Int.gcd a b = g)) (hle : g ≤ 9223372036854775807) :
    Calls Tryd.prog 25 #[.int .i64 a, .int .i64 b] w fun e w' => e = .returned (.tuple #[.int .i64 (g : Int), .bool true]) ∧ Below w.heap.size w w' := by
  have h := gcd_any a b w h1 h2 h3 h4
  rw [hg.out, fitV_yes (by unfold Is64; omega), fitB_yes (by unfold Is64; omega)] at h
  exact h
theorem gcd_no (a b : Int) (g : Nat) (w : World) (h1 : -9223372036854775808 ≤ a) (h2 : a ≤ 9223372036854775807) (h3 : -9223372036854775808 ≤ b) (h4 : b ≤ 9223372036854775807) (hg : Hid (Int.gcd a b = g)) (hle : ¬ g ≤ 9223372036854775807) :
    Calls Tryd.prog 25 #[.int .i64 a, .int .i64 b] w fun e w' => e = .returned (.tuple #[.int .i64 0, .bool false]) ∧ Below w.heap.size w w' := by
  have h := gcd_any a b w h1 h2 h3 h4
  rw [hg.out, fitV_no (by unfold Is64; omega), fitB_no (by unfold Is64; omega)] at h
  exact h

theorem gcd_great {a b : Int} (h1 : -9223372036854775808 ≤ a) (h2 : a ≤ 9223372036854775807) (h3 : -9223372036854775808 ≤ b) (h4 : b ≤ 9223372036854775807) (h : ¬ Int.gcd a b ≤ 9223372036854775807) :
    (a = 0 ∨ a = -9223372036854775808) ∧ (b = 0 ∨ b = -9223372036854775808) ∧ ¬ (a = 0 ∧ b = 0) := by
  have ha : Int.gcd a b ∣ a.natAbs := Nat.gcd_dvd_left _ _
  have hb : Int.gcd a b ∣ b.natAbs := Nat.gcd_dvd_right _ _
  have ha2 : a.natAbs = 0 ∨ Int.gcd a b ≤ a.natAbs := by
    rcases Nat.eq_zero_or_pos a.natAbs with h0 | h0
    · exact .inl h0
    · exact .inr (Nat.le_of_dvd h0 ha)
  have hb2 : b.natAbs = 0 ∨ Int.gcd a b ≤ b.natAbs := by
    rcases Nat.eq_zero_or_pos b.natAbs with h0 | h0
    · exact .inl h0
    · exact .inr (Nat.le_of_dvd h0 hb)
  refine ⟨by omega, by omega, ?_⟩
  rintro ⟨rfl, rfl⟩
  exact h (by decide)
theorem gcd_edge {a b : Int} (ha : a = 0 ∨ a = -9223372036854775808) (hb : b = 0 ∨ b = -9223372036854775808) (h0 : ¬ (a = 0 ∧ b = 0)) : ¬ Int.gcd a b ≤ 9223372036854775807 := by
  rcases ha with rfl | rfl <;> rcases hb with rfl | rfl
  · exact absurd ⟨rfl, rfl⟩ h0
  · decide
  · decide
  · decide
theorem gcd_tmod (a b : Int) : a.tmod (Int.gcd a b : Int) = 0 ∧ b.tmod (Int.gcd a b : Int) = 0 :=
  ⟨Int.tmod_eq_zero_of_dvd (Int.gcd_dvd_left ..), Int.tmod_eq_zero_of_dvd (Int.gcd_dvd_right ..)⟩
theorem gcd_all {a b c : Int} (ha : a.tmod c = 0) (hb : b.tmod c = 0) : (Int.gcd a b : Int) % c = 0 := by
  have h := Int.dvd_coe_gcd (Int.dvd_of_tmod_eq_zero ha) (Int.dvd_of_tmod_eq_zero hb)
  exact Int.emod_eq_zero_of_dvd h

set_option maxHeartbeats 800000 in
set_option maxRecDepth 100000 in
theorem divides_out (a b c : Int) (w : World) (ht : Tabs w) (h1 : -9223372036854775808 ≤ a) (h2 : a ≤ 9223372036854775807) (h3 : -9223372036854775808 ≤ b) (h4 : b ≤ 9223372036854775807) (hgr : ¬ Int.gcd a b ≤ 9223372036854775807) :
    Calls Tryd.prog 6 #[.int .i64 a, .int .i64 b, .int .i64 c] w fun e w' => e = .returned (.bool true) ∧ Below w.heap.size w w' := by
  have hc := gcd_no a b _ w h1 h2 h3 h4 rfl hgr
  have HC := Lib.hid hc
  have hl := fun w2 (h : Below w.heap.size w w2) => lives_any w2 (ht.below h)
  have HL := Lib.hid hl
  obtain ⟨ha, hb, h0⟩ := gcd_great h1 h2 h3 h4 hgr
  clear hc hl hgr
  rcases ha with rfl | rfl <;> rcases hb with rfl | rfl
  · exact absurd ⟨rfl, rfl⟩ h0
  all_goals
    clear h0 h1 h2 h3 h4
    go_enter Tryd.func6, Tryd.ntmps6
    go_wp2_with fail
    refine HC.out.mono ?_
    rintro e w1 ⟨rfl, hb1⟩
    have HB1 := Lib.hid hb1
    clear hb1
    go_wp2_with fail
    refine (HL.out _ HB1.out).mono ?_
    rintro e w2 ⟨rfl, hb2⟩
    have HB2 := Lib.hid (HB1.out.trans (hb2.mono HB1.out.size))
    clear hb2
    go_wp2_with fail
    go_ret
    exact ⟨rfl, HB2.out⟩

set_option maxHeartbeats 800000 in
set_option maxRecDepth 100000 in
theorem divides_zero (c : Int) (w : World) (ht : Tabs w) :
    Calls Tryd.prog 6 #[.int .i64 0, .int .i64 0, .int .i64 c] w fun e w' => e = .returned (.bool true) ∧ Below w.heap.size w w' := by
  have hc := gcd_yes 0 0 0 w (by omega) (by omega) (by omega) (by omega) (Lib.hid (by decide)) (by omega)
  have HC := Lib.hid hc
  have hl := fun w2 (h : Below w.heap.size w w2) => lives_any w2 (ht.below h)
  have HL := Lib.hid hl
  clear hc hl
  by_cases hc1 : c < 1
  all_goals
    go_enter Tryd.func6, Tryd.ntmps6
    go_wp2_with fail
    refine HC.out.mono ?_
    rintro e w1 ⟨rfl, hb1⟩
    have HB1 := Lib.hid hb1
    clear hb1
    go_wp2_with fail
    refine (HL.out _ HB1.out).mono ?_
    rintro e w2 ⟨rfl, hb2⟩
    have HB2 := Lib.hid (HB1.out.trans (hb2.mono HB1.out.size))
    clear hb2
    go_wp2_with fail
    go_ret
    exact ⟨rfl, HB2.out⟩

set_option maxHeartbeats 1600000 in
set_option maxRecDepth 100000 in
theorem divides_s1 (a b c : Int) (w : World) (ht : Tabs w) (h1 : -9223372036854775808 ≤ a) (h2 : a ≤ 9223372036854775807) (h3 : -9223372036854775808 ≤ b) (h4 : b ≤ 9223372036854775807) (h5 : -9223372036854775808 ≤ c) (h6 : c ≤ 9223372036854775807)
    (g : Nat) (hg : Hid (Int.gcd a b = g)) (hgr : g ≤ 9223372036854775807) (hg0 : 0 < g) (q0 : (a == 0) = false) (q1 : (a == -9223372036854775808) = false) :
    Calls Tryd.prog 6 #[.int .i64 a, .int .i64 b, .int .i64 c] w fun e w' => e = .returned (.bool true) ∧ Below w.heap.size w w' := by
  have hc := gcd_yes a b g w h1 h2 h3 h4 hg hgr
  have HC := Lib.hid hc
  have hl := fun w2 (h : Below w.heap.size w w2) => lives_any w2 (ht.below h)
  have HL := Lib.hid hl
  have ht1 := (gcd_tmod a b).1
  have ht2 := (gcd_tmod a b).2
  rw [hg.out] at ht1 ht2
  have hg1 : (0 : Int) < (g : Int) := by omega
  have hgz : ((g : Int) == 0) = false := beq_eq_false_iff_ne.2 (by omega)
  clear hc hl
  have hcs : c < 1 ∨ (1 ≤ c ∧ Int.tmod a c ≠ 0) ∨ (1 ≤ c ∧ Int.tmod a c = 0 ∧ b.tmod c ≠ 0) ∨ (1 ≤ c ∧ Int.tmod a c = 0 ∧ b.tmod c = 0) := by omega
  rcases hcs with hc1 | ⟨hc1, hac⟩ | ⟨hc1, hac, hbc⟩ | ⟨hc1, hac, hbc⟩
  · go_enter Tryd.func6, Tryd.ntmps6
    go_wp2_with fail
    refine HC.out.mono ?_
    rintro e w1 ⟨rfl, hb1⟩
    have HB1 := Lib.hid hb1
    clear hb1
    go_wp2_with fail
    refine (HL.out _ HB1.out).mono ?_
    rintro e w2 ⟨rfl, hb2⟩
    have HB2 := Lib.hid (HB1.out.trans (hb2.mono HB1.out.size))
    clear hb2
    go_wp2_with fail
    go_ret
    exact ⟨rfl, HB2.out⟩
  · have hcB : decide (c < 1) = false := decide_eq_false (by omega)
    have ha5 : (Int.tmod a c != 0) = true := bne_iff_ne.2 hac
    clear hac
    go_enter Tryd.func6, Tryd.ntmps6
    go_wp2_with fail
    refine HC.out.mono ?_
    rintro e w1 ⟨rfl, hb1⟩
    have HB1 := Lib.hid hb1
    clear hb1
    go_wp2_with fail
    refine (HL.out _ HB1.out).mono ?_
    rintro e w2 ⟨rfl, hb2⟩
    have HB2 := Lib.hid (HB1.out.trans (hb2.mono HB1.out.size))
    clear hb2
    go_wp2_with fail
    go_ret
    exact ⟨rfl, HB2.out⟩
  · have hcB : decide (c < 1) = false := decide_eq_false (by omega)
    have hb5 : (b.tmod c != 0) = true := bne_iff_ne.2 hbc
    clear hbc
    go_enter Tryd.func6, Tryd.ntmps6
    go_wp2_with fail
    refine HC.out.mono ?_
    rintro e w1 ⟨rfl, hb1⟩
    have HB1 := Lib.hid hb1
    clear hb1
    go_wp2_with fail
    refine (HL.out _ HB1.out).mono ?_
    rintro e w2 ⟨rfl, hb2⟩
    have HB2 := Lib.hid (HB1.out.trans (hb2.mono HB1.out.size))
    clear hb2
    go_wp2_with fail
    go_ret
    exact ⟨rfl, HB2.out⟩
  · have hcB : decide (c < 1) = false := decide_eq_false (by omega)
    have hgc := gcd_all (a := a) hac hbc
    rw [hg.out] at hgc
    go_enter Tryd.func6, Tryd.ntmps6
    go_wp2_with fail
    refine HC.out.mono ?_
    rintro e w1 ⟨rfl, hb1⟩
    have HB1 := Lib.hid hb1
    clear hb1
    go_wp2_with fail
    refine (HL.out _ HB1.out).mono ?_
    rintro e w2 ⟨rfl, hb2⟩
    have HB2 := Lib.hid (HB1.out.trans (hb2.mono HB1.out.size))
    clear hb2
    go_wp2_with fail
    go_ret
    exact ⟨rfl, HB2.out⟩

set_option maxHeartbeats 1600000 in
set_option maxRecDepth 100000 in
theorem divides_s2 (a b c : Int) (w : World) (ht : Tabs w) (h1 : -9223372036854775808 ≤ a) (h2 : a ≤ 9223372036854775807) (h3 : -9223372036854775808 ≤ b) (h4 : b ≤ 9223372036854775807) (h5 : -9223372036854775808 ≤ c) (h6 : c ≤ 9223372036854775807)
    (g : Nat) (hg : Hid (Int.gcd a b = g)) (hgr : g ≤ 9223372036854775807) (hg0 : 0 < g) (qa : (a == 0) = true) (q0 : (b == 0) = false) (q1 : (b == -9223372036854775808) = false) :
    Calls Tryd.prog 6 #[.int .i64 a, .int .i64 b, .int .i64 c] w fun e w' => e = .returned (.bool true) ∧ Below w.heap.size w w' := by
  have hc := gcd_yes a b g w h1 h2 h3 h4 hg hgr
  have HC := Lib.hid hc
  have hl := fun w2 (h : Below w.heap.size w w2) => lives_any w2 (ht.below h)
  have HL := Lib.hid hl
  have ht1 := (gcd_tmod a b).1
  have ht2 := (gcd_tmod a b).2
  rw [hg.out] at ht1 ht2
  have hg1 : (0 : Int) < (g : Int) := by omega
  have hgz : ((g : Int) == 0) = false := beq_eq_false_iff_ne.2 (by omega)
  clear hc hl
  have hcs : c < 1 ∨ (1 ≤ c ∧ Int.tmod a c ≠ 0) ∨ (1 ≤ c ∧ Int.tmod a c = 0 ∧ b.tmod c ≠ 0) ∨ (1 ≤ c ∧ Int.tmod a c = 0 ∧ b.tmod c = 0) := by omega
  rcases hcs with hc1 | ⟨hc1, hac⟩ | ⟨hc1, hac, hbc⟩ | ⟨hc1, hac, hbc⟩
  · go_enter Tryd.func6, Tryd.ntmps6
    go_wp2_with fail
    refine HC.out.mono ?_
    rintro e w1 ⟨rfl, hb1⟩
    have HB1 := Lib.hid hb1
    clear hb1
    go_wp2_with fail
    refine (HL.out _ HB1.out).mono ?_
    rintro e w2 ⟨rfl, hb2⟩
    have HB2 := Lib.hid (HB1.out.trans (hb2.mono HB1.out.size))
    clear hb2
    go_wp2_with fail
    go_ret
    exact ⟨rfl, HB2.out⟩
  · have hcB : decide (c < 1) = false := decide_eq_false (by omega)
    have ha5 : (Int.tmod a c != 0) = true := bne_iff_ne.2 hac
    clear hac
    go_enter Tryd.func6, Tryd.ntmps6
    go_wp2_with fail
    refine HC.out.mono ?_
    rintro e w1 ⟨rfl, hb1⟩
    have HB1 := Lib.hid hb1
    clear hb1
    go_wp2_with fail
    refine (HL.out _ HB1.out).mono ?_
    rintro e w2 ⟨rfl, hb2⟩
    have HB2 := Lib.hid (HB1.out.trans (hb2.mono HB1.out.size))
    clear hb2
    go_wp2_with fail
    go_ret
    exact ⟨rfl, HB2.out⟩
  · have hcB : decide (c < 1) = false := decide_eq_false (by omega)
    have hb5 : (b.tmod c != 0) = true := bne_iff_ne.2 hbc
    clear hbc
    go_enter Tryd.func6, Tryd.ntmps6
    go_wp2_with fail
    refine HC.out.mono ?_
    rintro e w1 ⟨rfl, hb1⟩
    have HB1 := Lib.hid hb1
    clear hb1
    go_wp2_with fail
    refine (HL.out _ HB1.out).mono ?_
    rintro e w2 ⟨rfl, hb2⟩
    have HB2 := Lib.hid (HB1.out.trans (hb2.mono HB1.out.size))
    clear hb2
    go_wp2_with fail
    go_ret
    exact ⟨rfl, HB2.out⟩
  · have hcB : decide (c < 1) = false := decide_eq_false (by omega)
    have hgc := gcd_all (a := a) hac hbc
    rw [hg.out] at hgc
    go_enter Tryd.func6, Tryd.ntmps6
    go_wp2_with fail
    refine HC.out.mono ?_
    rintro e w1 ⟨rfl, hb1⟩
    have HB1 := Lib.hid hb1
    clear hb1
    go_wp2_with fail
    refine (HL.out _ HB1.out).mono ?_
    rintro e w2 ⟨rfl, hb2⟩
    have HB2 := Lib.hid (HB1.out.trans (hb2.mono HB1.out.size))
    clear hb2
    go_wp2_with fail
    go_ret
    exact ⟨rfl, HB2.out⟩

set_option maxHeartbeats 1600000 in
set_option maxRecDepth 100000 in
theorem divides_s3 (a b c : Int) (w : World) (ht : Tabs w) (h1 : -9223372036854775808 ≤ a) (h2 : a ≤ 9223372036854775807) (h3 : -9223372036854775808 ≤ b) (h4 : b ≤ 9223372036854775807) (h5 : -9223372036854775808 ≤ c) (h6 : c ≤ 9223372036854775807)
    (g : Nat) (hg : Hid (Int.gcd a b = g)) (hgr : g ≤ 9223372036854775807) (hg0 : 0 < g) (qa0 : (a == 0) = false) (qa : (a == -9223372036854775808) = true) (q0 : (b == 0) = false) (q1 : (b == -9223372036854775808) = false) :
    Calls Tryd.prog 6 #[.int .i64 a, .int .i64 b, .int .i64 c] w fun e w' => e = .returned (.bool true) ∧ Below w.heap.size w w' := by
  have hc := gcd_yes a b g w h1 h2 h3 h4 hg hgr
  have HC := Lib.hid hc
  have hl := fun w2 (h : Below w.heap.size w w2) => lives_any w2 (ht.below h)
  have HL := Lib.hid hl
  have ht1 := (gcd_tmod a b).1
  have ht2 := (gcd_tmod a b).2
  rw [hg.out] at ht1 ht2
  have hg1 : (0 : Int) < (g : Int) := by omega
  have hgz : ((g : Int) == 0) = false := beq_eq_false_iff_ne.2 (by omega)
  clear hc hl
  have hcs : c < 1 ∨ (1 ≤ c ∧ Int.tmod a c ≠ 0) ∨ (1 ≤ c ∧ Int.tmod a c = 0 ∧ b.tmod c ≠ 0) ∨ (1 ≤ c ∧ Int.tmod a c = 0 ∧ b.tmod c = 0) := by omega
  rcases hcs with hc1 | ⟨hc1, hac⟩ | ⟨hc1, hac, hbc⟩ | ⟨hc1, hac, hbc⟩
  · go_enter Tryd.func6, Tryd.ntmps6
    go_wp2_with fail
    refine HC.out.mono ?_
    rintro e w1 ⟨rfl, hb1⟩
    have HB1 := Lib.hid hb1
    clear hb1
    go_wp2_with fail
    refine (HL.out _ HB1.out).mono ?_
    rintro e w2 ⟨rfl, hb2⟩
    have HB2 := Lib.hid (HB1.out.trans (hb2.mono HB1.out.size))
    clear hb2
    go_wp2_with fail
    go_ret
    exact ⟨rfl, HB2.out⟩
  · have hcB : decide (c < 1) = false := decide_eq_false (by omega)
    have ha5 : (Int.tmod a c != 0) = true := bne_iff_ne.2 hac
    clear hac
    go_enter Tryd.func6, Tryd.ntmps6
    go_wp2_with fail
    refine HC.out.mono ?_
    rintro e w1 ⟨rfl, hb1⟩
    have HB1 := Lib.hid hb1
    clear hb1
    go_wp2_with fail
    refine (HL.out _ HB1.out).mono ?_
    rintro e w2 ⟨rfl, hb2⟩
    have HB2 := Lib.hid (HB1.out.trans (hb2.mono HB1.out.size))
    clear hb2
    go_wp2_with fail
    go_ret
    exact ⟨rfl, HB2.out⟩
  · have hcB : decide (c < 1) = false := decide_eq_false (by omega)
    have hb5 : (b.tmod c != 0) = true := bne_iff_ne.2 hbc
    clear hbc
    go_enter Tryd.func6, Tryd.ntmps6
    go_wp2_with fail
    refine HC.out.mono ?_
    rintro e w1 ⟨rfl, hb1⟩
    have HB1 := Lib.hid hb1
    clear hb1
    go_wp2_with fail
    refine (HL.out _ HB1.out).mono ?_
    rintro e w2 ⟨rfl, hb2⟩
    have HB2 := Lib.hid (HB1.out.trans (hb2.mono HB1.out.size))
    clear hb2
    go_wp2_with fail
    go_ret
    exact ⟨rfl, HB2.out⟩
  · have hcB : decide (c < 1) = false := decide_eq_false (by omega)
    have hgc := gcd_all (a := a) hac hbc
    rw [hg.out] at hgc
    go_enter Tryd.func6, Tryd.ntmps6
    go_wp2_with fail
    refine HC.out.mono ?_
    rintro e w1 ⟨rfl, hb1⟩
    have HB1 := Lib.hid hb1
    clear hb1
    go_wp2_with fail
    refine (HL.out _ HB1.out).mono ?_
    rintro e w2 ⟨rfl, hb2⟩
    have HB2 := Lib.hid (HB1.out.trans (hb2.mono HB1.out.size))
    clear hb2
    go_wp2_with fail
    go_ret
    exact ⟨rfl, HB2.out⟩

theorem divides_walk (a b c : Int) (w : World) (ht : Tabs w) (h1 : -9223372036854775808 ≤ a) (h2 : a ≤ 9223372036854775807) (h3 : -9223372036854775808 ≤ b) (h4 : b ≤ 9223372036854775807) (h5 : -9223372036854775808 ≤ c) (h6 : c ≤ 9223372036854775807) :
    Calls Tryd.prog 6 #[.int .i64 a, .int .i64 b, .int .i64 c] w fun e w' => e = .returned (.bool true) ∧ Below w.heap.size w w' := by
  by_cases hgr : Int.gcd a b ≤ 9223372036854775807
  · by_cases h0 : a = 0 ∧ b = 0
    · obtain ⟨rfl, rfl⟩ := h0
      exact divides_zero c w ht
    · have hg0 : 0 < Int.gcd a b := by
        rcases Nat.eq_zero_or_pos (Int.gcd a b) with h | h
        · exact absurd (Int.gcd_eq_zero_iff.1 h) h0
        · exact h
      have hne : ¬ ((a = 0 ∨ a = -9223372036854775808) ∧ (b = 0 ∨ b = -9223372036854775808)) := fun h => gcd_edge h.1 h.2 h0 hgr
      by_cases ha : a = 0
      · exact divides_s2 a b c w ht h1 h2 h3 h4 h5 h6 _ rfl hgr hg0 (beq_iff_eq.2 ha) (beq_eq_false_iff_ne.2 (by omega)) (beq_eq_false_iff_ne.2 (by omega))
      · by_cases ha2 : a = -9223372036854775808
        · exact divides_s3 a b c w ht h1 h2 h3 h4 h5 h6 _ rfl hgr hg0 (beq_eq_false_iff_ne.2 ha) (beq_iff_eq.2 ha2) (beq_eq_false_iff_ne.2 (by omega)) (beq_eq_false_iff_ne.2 (by omega))
        · exact divides_s1 a b c w ht h1 h2 h3 h4 h5 h6 _ rfl hgr hg0 (beq_eq_false_iff_ne.2 ha) (beq_eq_false_iff_ne.2 ha2)
  · exact divides_out a b c w ht h1 h2 h3 h4 hgr

set_option maxRecDepth 100000 in
theorem divides_lifted (os : Os) (started : os.Started) (H : Type) (enc : TypeId × Value → H) :
    ReturnsInHanded {} Tryd.checked os 6 .any (fun w args => (Rows.fixDividesSpec.pre enc Tryd.prog Tryd.f6 [] false w args ∧ laidMetH Tryd.prog laid3 w) ∧ sizedMet enc Tryd.prog Tryd.f6 (OpenSpec.ofChange Rows.fixDividesSpec) false w args)
      (Rows.fixDividesSpec.post enc Tryd.prog Tryd.f6 false true false false) := by
  refine returnsInHanded_of_change_and (C := Tryd.checked) (X := fun w _ => laidMetH Tryd.prog laid3 w) (fun _ _ _ hh h => h.of_heap hh) own started (by kernel_rfl) Tryd.func6
    (ChangeSpec.witness_shaped (enc := enc) (C := Tryd.checked) (os := os) (X := fun w _ => laidMetH Tryd.prog laid3 w) false (World.doorLaid Tryd.prog 400 os) #[.int .i64 0, .int .i64 0, .int .i64 0] 8 rfl (World.shaped_of_RefB (by kernel_rfl) (by kernel_rfl)) (by kernel_rfl) (by kernel_rfl) (by kernel_rfl) (door_met os _)) ?_
  intro W base args ds gs before hval0 hW _ _ hL _
  have hval : ∀ (j : Nat) t v, Tryd.f6.params[j]? = some t → args[j]? = some v → Value.okWide Tryd.prog W .any base t v := hval0
  have hW' := hW
  obtain ⟨p, q, hA0, hV, rfl, hfz, hnd⟩ := hW
  have hA : DataW.TrodAll enc Tryd.prog W 0 (fun _ => true) true Tryd.f6.params.toList args.toList ds p := hA0
  rw [Tryd.params6] at hA hval
  obtain ⟨v0, vs0, d0, ds0, p0, q0, hargs, rfl, rfl, h0, r0⟩ := trodAll_cons hA
  obtain ⟨v1, vs1, d1, ds1, p1, q1, rfl, rfl, rfl, h1, r1⟩ := trodAll_cons r0
  obtain ⟨v2, vs2, d2, ds2, p2, q2, rfl, rfl, rfl, h2, r2⟩ := trodAll_cons r1
  obtain ⟨rfl, rfl, rfl⟩ := trodAll_nil r2
  obtain rfl : args = #[v0, v1, v2] := by cases args; simp_all
  obtain ⟨rfl, rfl⟩ := trodVars_none hV
  obtain ⟨a0, rfl, rfl, rfl, w0⟩ := open_int Tryd.underlying3 (hval 0 3 v0 rfl rfl) h0
  obtain ⟨a1, rfl, rfl, rfl, w1⟩ := open_int Tryd.underlying3 (hval 1 3 v1 rfl rfl) h1
  obtain ⟨a2, rfl, rfl, rfl, w2⟩ := open_int Tryd.underlying3 (hval 2 3 v2 rfl rfl) h2
  clear hA0 hval0
  simp only [List.append_nil] at hW'
  refine (divides_walk a0 a1 a2 W (of_laid hL) (i64_of w0).1 (i64_of w0).2 (i64_of w1).1 (i64_of w1).2 (i64_of w2).1 (i64_of w2).2).mono fun e W' ⟨he, hg⟩ => ?_
  subst he
  exact ⟨_, rfl, law_post (pa := []) (pv := []) hW' (fun _ _ _ => (trodAll_cons_mk (shut_bool Tryd.underlying4 _) trodAll_mk0)) (fun sp => (trodAll_cons_mk (shut_int Tryd.underlying3 w0) (trodAll_cons_mk (shut_int Tryd.underlying3 w1) (trodAll_cons_mk (shut_int Tryd.underlying3 w2) trodAll_mk0)))) (fun _ => rfl) rfl hg⟩

theorem divides_holds : Rows.FixDividesSaid :=
  OpenClaim.holds_of_wide 6 Tryd.f6 rfl rfl rfl rfl rfl rfl rfl ⟨rfl, rfl, rfl, rfl, rfl⟩ rfl rfl rfl rfl rfl (by kernel_rfl) Tryd.func6 (by kernel_rfl)
    (of_decide_eq_true (by kernel_rfl)) (by unfold Func.isWrapper; first | (rw [if_pos (by decide +kernel)]; kernel_rfl) | (rw [if_neg (by decide +kernel)]; exact ⟨rfl, rfl⟩))
    (fun os started H enc _ => divides_lifted os started H enc)

end Go.Proofs.YtfjoahbboglgfaaDoor
