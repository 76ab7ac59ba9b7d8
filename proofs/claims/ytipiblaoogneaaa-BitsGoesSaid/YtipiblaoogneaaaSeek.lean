/- The least number from some on that a set has, or hasn't. -/
import Derived.Test.YtipiblaoogneaaaHas
import Derived.Lib.BitFns
namespace Go.Proofs.Ytipiblaoogneaaa
open Go.RowKit

set_option maxRecDepth 100000 in
set_option maxHeartbeats 800000 in
theorem ntz_int (x : Int) (w : World) (h0 : 0 ≤ x) (h1 : x ≤ 255) : Calls Try.prog 47 #[.int .u8 x] w fun e w' => e = .returned (.int .i64 (Lib.trailingZeros8 x.toNat)) ∧ w = w' := by
  have hk : (⟨(([8, 0, 1, 0, 2, 0, 1, 0, 3, 0, 1, 0, 2, 0, 1, 0, 4, 0, 1, 0, 2, 0, 1, 0, 3, 0, 1, 0, 2, 0, 1, 0, 5, 0, 1, 0, 2, 0, 1, 0, 3, 0, 1, 0, 2, 0, 1, 0, 4, 0, 1, 0, 2, 0, 1, 0, 3, 0, 1, 0, 2, 0, 1, 0].append [6, 0, 1, 0, 2, 0, 1, 0, 3, 0, 1, 0, 2, 0, 1, 0, 4, 0, 1, 0, 2, 0, 1, 0, 3, 0, 1, 0, 2, 0, 1, 0, 5, 0, 1, 0, 2, 0, 1, 0, 3, 0, 1, 0, 2, 0, 1, 0, 4, 0, 1, 0, 2, 0, 1, 0, 3, 0, 1, 0, 2, 0, 1, 0]).append ([7, 0, 1, 0, 2, 0, 1, 0, 3, 0, 1, 0, 2, 0, 1, 0, 4, 0, 1, 0, 2, 0, 1, 0, 3, 0, 1, 0, 2, 0, 1, 0, 5, 0, 1, 0, 2, 0, 1, 0, 3, 0, 1, 0, 2, 0, 1, 0, 4, 0, 1, 0, 2, 0, 1, 0, 3, 0, 1, 0, 2, 0, 1, 0].append [6, 0, 1, 0, 2, 0, 1, 0, 3, 0, 1, 0, 2, 0, 1, 0, 4, 0, 1, 0, 2, 0, 1, 0, 3, 0, 1, 0, 2, 0, 1, 0, 5, 0, 1, 0, 2, 0, 1, 0, 3, 0, 1, 0, 2, 0, 1, 0, 4, 0, 1, 0, 2, 0, 1, 0, 3, 0, 1, 0, 2, 0, 1, 0])).toArray⟩ : ByteArray) = Lib.ntz8tab := by decide +kernel
  rw [← Lib.ntz8_int x h0 h1]
  go_enter Try.func47, Try.ntmps47
  rw [hk]
  go_wp2
  go_ret
  refine ⟨congrArg (fun z => Ending.returned (.int .i64 z)) (?_ : wrap64 (Lib.ntz8 x) = _), rfl⟩
  generalize Lib.ntz8 x = v
  unfold wrap64
  rfl
theorem ntz_any (x : Nat) (w : World) (h : x < 256) : Calls Try.prog 47 #[.int .u8 (x : Int)] w fun e w' => e = .returned (.int .i64 (Lib.trailingZeros8 x : Int)) ∧ w = w' := by
  have h2 := ntz_int (x : Int) w (by omega) (by omega)
  rwa [Int.toNat_natCast] at h2
theorem ntz_spec : ∀ (x : Fin 256), x.val ≠ 0 → Lib.trailingZeros8 x.val < 8 ∧ x.val.testBit (Lib.trailingZeros8 x.val) = true ∧ ∀ k, k < Lib.trailingZeros8 x.val → x.val.testBit k = false := by decide +kernel
/-- The truths that are sought: those of the set, or the others. -/
def sook (f : Nat → Bool) (t : Bool) (i : Nat) : Bool := f i != t
/-- Turned over. -/
def turned (t : Bool) : Nat := if t then 255 else 0
theorem turned_lt (t : Bool) : turned t < 256 := by cases t <;> decide
theorem turned_bit (t : Bool) (k : Nat) (hk : k < 8) : (turned t).testBit k = t := by
  have : ∀ (t : Bool) (k : Fin 8), (turned t).testBit k.val = t := by decide
  exact this t ⟨k, hk⟩
/-- What is ahead of a place in its byte. -/
def ahead (f : Nat → Bool) (t : Bool) (i : Nat) : Nat := (byt f (i / 8) ^^^ turned t) / 2 ^ (i % 8)
theorem ahead_bit (f : Nat → Bool) (t : Bool) (i k : Nat) (h : i % 8 + k < 8) : (ahead f t i).testBit k = sook f t (i + k) := by
  unfold ahead sook
  rw [Nat.testBit_div_two_pow, Nat.testBit_xor, byt_bit, Nat.add_comm k, decide_eq_true h, Bool.true_and, turned_bit _ _ h, show 8 * (i / 8) + (i % 8 + k) = i + k by omega]
theorem xor_lt (f : Nat → Bool) (t : Bool) (j : Nat) : byt f j ^^^ turned t < 256 := Nat.xor_lt_two_pow (n := 8) (byt_lt f j) (turned_lt t)
theorem ahead_lt (f : Nat → Bool) (t : Bool) (i : Nat) : ahead f t i < 256 := Nat.lt_of_le_of_lt (Nat.div_le_self _ _) (xor_lt f t _)
theorem ahead_far (f : Nat → Bool) (t : Bool) (i k : Nat) (h : 8 ≤ i % 8 + k) : (ahead f t i).testBit k = false := by
  unfold ahead
  rw [Nat.testBit_div_two_pow]
  exact Nat.testBit_lt_two_pow (Nat.lt_of_lt_of_le (xor_lt f t _) (show 2 ^ 8 ≤ 2 ^ (k + i % 8) from Nat.pow_le_pow_right (by decide) (by omega)))
theorem ahead_zero {f : Nat → Bool} {t : Bool} {i : Nat} (h : ahead f t i = 0) : ∀ x, i ≤ x → x < i + (8 - i % 8) → sook f t x = false := by
  intro x h1 h2
  have := ahead_bit f t i (x - i) (by omega)
  rw [h, Nat.zero_testBit, show i + (x - i) = x by omega] at this
  exact this.symm
theorem ahead_some {f : Nat → Bool} {t : Bool} {i : Nat} (h : ahead f t i ≠ 0) : ∃ k, Lib.trailingZeros8 (ahead f t i) = k ∧ k < 8 ∧ sook f t (i + k) = true ∧ ∀ x, i ≤ x → x < i + k → sook f t x = false := by
  obtain ⟨h1, h2, h3⟩ := ntz_spec ⟨ahead f t i, ahead_lt f t i⟩ h
  refine ⟨_, rfl, h1, ?_, ?_⟩
  · have hk : i % 8 + Lib.trailingZeros8 (ahead f t i) < 8 := by
      rcases Nat.lt_or_ge (i % 8 + Lib.trailingZeros8 (ahead f t i)) 8 with h4 | h4
      · exact h4
      · rw [ahead_far _ _ _ _ h4] at h2; cases h2
    rw [← ahead_bit f t i _ hk]; exact h2
  · intro x hx hy
    by_cases hk : i % 8 + (x - i) < 8
    · have := h3 (x - i) (by show x - i < Lib.trailingZeros8 (ahead f t i); omega)
      rw [show (⟨ahead f t i, ahead_lt f t i⟩ : Fin 256).val = ahead f t i from rfl, ahead_bit _ _ _ _ hk, show i + (x - i) = x by omega] at this
      exact this
    · exfalso
      rcases Nat.lt_or_ge (i % 8 + Lib.trailingZeros8 (ahead f t i)) 8 with h4 | h4
      · omega
      · rw [ahead_far _ _ _ _ h4] at h2; cases h2
theorem reach_yes {w : World} {g b n : Nat} {f : Nat → Bool} (h : Sat w g b n f) (i : Nat) (hi : i < n) : Calls Try.prog 30 #[.pointer (some ⟨g, 0, none⟩), .int .i64 (i : Int)] w fun e w' => e = .returned (.bool true) ∧ w = w' := by
  have h2 := reach_any h (i : Int)
  rwa [decide_eq_true (show (0 : Int) ≤ (i : Int) by omega), decide_eq_true (show (i : Int) < (n : Int) by omega)] at h2
theorem reach_no {w : World} {g b n : Nat} {f : Nat → Bool} (h : Sat w g b n f) (i : Nat) (hi : n ≤ i) : Calls Try.prog 30 #[.pointer (some ⟨g, 0, none⟩), .int .i64 (i : Int)] w fun e w' => e = .returned (.bool false) ∧ w = w' := by
  have h2 := reach_any h (i : Int)
  rwa [decide_eq_true (show (0 : Int) ≤ (i : Int) by omega), decide_eq_false (show ¬ (i : Int) < (n : Int) by omega)] at h2
set_option maxRecDepth 20000 in
set_option maxHeartbeats 1600000 in
theorem seek_any {w : World} {g b n : Nat} {f : Nat → Bool} (h : Sat w g b n f) (x : Int) (hx : x ≤ 9223372036854775807) (t : Bool) (tv : Nat) (htv : turned t = tv) :
    Calls Try.prog 46 #[.pointer (some ⟨g, 0, none⟩), .int .i64 x, .int .u8 (tv : Int)] w fun e w' => e = .returned (.int .i64 (num (nxt (sook f t) n x.toNat))) ∧ w = w' := by
  have H := Lib.hid h
  have hle := h.le
  have HM : Hid (max x 0 = (x.toNat : Int)) := Lib.hid (by omega)
  have hst : x.toNat ≤ 9223372036854775807 := by omega
  have htl : tv < 256 := by rw [← htv]; exact turned_lt t
  have HT := Lib.hid htv
  clear h htv hx
  obtain ⟨s, hs⟩ : ∃ s, x.toNat = s := ⟨_, rfl⟩
  rw [hs] at HM hst ⊢
  clear hs
  go_enter Try.func46, Try.ntmps46
  go_upto_region 1 with fail
  go_cut [1] (fun v wx => v = .int .i64 (s : Int) ∧ wx = w)
  case first =>
    go_wp2_with fail
    all_goals go_meet
    all_goals exact ⟨congrArg (Value.int .i64) (by have := HM.out; omega), rfl⟩
  case rest =>
    obtain ⟨rfl, rfl⟩ := hcut
    clear HM
    go_wp2_with fail
    go_loop [1] (fun iv => ∃ i : Nat, s ≤ i ∧ (i = s ∨ i ≤ 4096) ∧ iv = .int .i64 (i : Int) ∧ Hid (∀ y, s ≤ y → y < i → sook f t y = false)) (fun iv => n + 8 - (intOf iv).toNat)
    case atStart => exact ⟨s, Nat.le_refl _, .inl rfl, by go_num, Lib.hid (fun y h1 h2 => by omega)⟩
    case round =>
      obtain ⟨i, hsi, hi2, rfl, HS⟩ := hrel
      have HI2 := Lib.hid hi2
      have HSI := Lib.hid hsi
      have HLE := Lib.hid hle
      clear hi2 hsi
      by_cases hlt : i < n
      · have HR := Lib.hid (reach_yes H.out i hlt)
        have hq := need_get hlt
        have hm := need_le hle
        have l1 := H.out.c1
        have l2 := H.out.byte _ hq
        have hdiv : (i : Int) / 8 = ((i / 8 : Nat) : Int) := by omega
        have hxor : bits .xor .u8 (byt f (i / 8) : Int) (tv : Int) = ((byt f (i / 8) ^^^ tv : Nat) : Int) := u8_xor_nat _ _ (byt_lt f _) htl
        have hshr : ((byt f (i / 8) ^^^ tv : Nat) : Int) / 2 ^ (i % 8) = (ahead f t i : Int) := by
          unfold ahead; rw [HT.out, Int.natCast_ediv, Int.natCast_pow]; rfl
        have HAL := Lib.hid (ahead_lt f t i)
        have hiz : (i : Int) ≤ 2048 := by omega
        clear hm hle
        by_cases h0 : ahead f t i = 0
        · have HZ := Lib.hid (ahead_zero h0)
          rw [h0] at hshr
          clear h0
          generalize (byt f (i / 8) ^^^ tv) = xv at *
          generalize byt f (i / 8) = yv at *
          generalize hqq : i / 8 = q at *
          go_wp2_with (go_at_call 30; refine (HR.out).mono ?_; rintro e w7 ⟨rfl, rfl⟩)
          go_round
          case rel => exact ⟨i + (8 - i % 8), by have := HSI.out; omega, .inr (by omega), by go_num, Lib.hid (fun y h1 h2 => by
            by_cases hy : i ≤ y
            · exact HZ.out y hy h2
            · exact HS.out y h1 (by omega))⟩
          case measure => simp [intOf]; omega
        · obtain ⟨k, hk1, hk2, hk3, hk4⟩ := ahead_some h0
          have HK1 := Lib.hid hk1
          have HK3 := Lib.hid hk3
          have HK4 := Lib.hid hk4
          have HTZ : Hid (∀ w, Calls Try.prog 47 #[.int .u8 (ahead f t i : Int)] w fun e w' => e = .returned (.int .i64 (k : Int)) ∧ w = w') := Lib.hid fun w => by
            have := ntz_any (ahead f t i) w HAL.out
            rwa [hk1] at this
          have hne : ((ahead f t i : Int) != 0) = true := by simpa using h0
          have hkz : (k : Int) < 8 := by omega
          have HK2 := Lib.hid hk2
          clear hk1 hk2 hk3 hk4 h0
          generalize (byt f (i / 8) ^^^ tv) = xv at *
          generalize byt f (i / 8) = yv at *
          generalize ahead f t i = av at *
          generalize hqq : i / 8 = q at *
          by_cases hin : i + k < n
          · have HR2 : Hid (Calls Try.prog 30 #[.pointer (some ⟨g, 0, none⟩), .int .i64 ((i : Int) + (k : Int))] wc fun e w' => e = .returned (.bool true) ∧ wc = w') := Lib.hid (by
              have := reach_yes H.out (i + k) hin
              rwa [Int.natCast_add] at this)
            have HN : Hid (nxt (sook f t) n s = some (i + k)) := Lib.hid (nxt_some (by have := HSI.out; omega) hin HK3.out (fun y h1 h2 => by
              by_cases hy : i ≤ y
              · exact HK4.out y hy h2
              · exact HS.out y h1 (by omega)))
            clear hin
            go_wp2_with (first
              | (go_at_call 47; refine (HTZ.out _).mono ?_; rintro e w7 ⟨rfl, rfl⟩)
              | (go_at_call 30; go_fit (HR.out); rintro e w7 ⟨rfl, rfl⟩)
              | (go_at_call 30; go_fit (HR2.out); rintro e w7 ⟨rfl, rfl⟩))
            go_ret
            exact ⟨by rw [HN.out]; rfl, rfl⟩
          · have HR2 : Hid (Calls Try.prog 30 #[.pointer (some ⟨g, 0, none⟩), .int .i64 ((i : Int) + (k : Int))] wc fun e w' => e = .returned (.bool false) ∧ wc = w') := Lib.hid (by
              have := reach_no H.out (i + k) (by omega)
              rwa [Int.natCast_add] at this)
            have HN : Hid (nxt (sook f t) n s = none) := Lib.hid (nxt_none (fun y h1 h2 => by
              by_cases hy : i ≤ y
              · exact HK4.out y hy (by omega)
              · exact HS.out y h1 (by omega)))
            clear hin
            go_wp2_with (first
              | (go_at_call 47; refine (HTZ.out _).mono ?_; rintro e w7 ⟨rfl, rfl⟩)
              | (go_at_call 30; go_fit (HR.out); rintro e w7 ⟨rfl, rfl⟩)
              | (go_at_call 30; go_fit (HR2.out); rintro e w7 ⟨rfl, rfl⟩))
            go_ret
            exact ⟨by rw [HN.out]; rfl, rfl⟩
      · have HR := Lib.hid (reach_no H.out i (by omega))
        have HN : Hid (nxt (sook f t) n s = none) := Lib.hid (nxt_none fun y h1 h2 => HS.out y h1 (by omega))
        go_wp2_with (go_at_call 30; refine (HR.out).mono ?_; rintro e w7 ⟨rfl, rfl⟩)
        go_ret
        exact ⟨by rw [HN.out]; rfl, rfl⟩
end Go.Proofs.Ytipiblaoogneaaa
