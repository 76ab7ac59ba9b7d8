/- The whole part of a square root and what is left, as package fix returns them. -/
import Derived.Test.YtfjoahbboglgfaaDoorPow
namespace Go.Proofs.YtfjoahbboglgfaaDoor
open Go.RowKit

/-- What the head of Root's loop knows: k bits are still to come. -/
structure RootRel (a : Nat) (k s : Nat) : Prop where
  lo : s * s ≤ a
  hi : a < (s + 2 ^ k) * (s + 2 ^ k)
  div : s % 2 ^ k = 0
  top : s + 2 ^ k ≤ 2 ^ 32

theorem pow_fits (k : Nat) (hk : k ≤ 31) : 2 ^ k ≤ 2147483648 := by
  have := Nat.pow_le_pow_right (n := 2) (by omega) hk
  omega

theorem wrap_pow (k : Nat) (hk : k ≤ 31) : wrap64 ((2 : Int) ^ k) = ((2 ^ k : Nat) : Int) := by
  have h1 := pow_fits k hk
  have h2 : ((2 : Int) ^ k) = ((2 ^ k : Nat) : Int) := by rw [Int.natCast_pow]; rfl
  rw [h2]
  generalize 2 ^ k = x at h1
  unfold wrap64
  omega

theorem or_bit (s k : Nat) (hk : k ≤ 31) (hd : s % 2 ^ (k + 1) = 0) (ht : s + 2 ^ (k + 1) ≤ 2 ^ 32) :
    bits .or .i64 (s : Int) (wrap64 ((2 : Int) ^ k)) = ((s + 2 ^ k : Nat) : Int) := by
  rw [wrap_pow k hk]
  have h1 := pow_fits k hk
  have h3 : s ||| 2 ^ k = s + 2 ^ k := by
    have h4 := Nat.two_pow_add_eq_or_of_lt (i := k + 1) (b := 2 ^ k) (Nat.pow_lt_pow_right (by omega) (by omega)) (s / 2 ^ (k + 1))
    have h5 : 2 ^ (k + 1) * (s / 2 ^ (k + 1)) = s := Nat.mul_div_cancel' (Nat.dvd_of_mod_eq_zero hd)
    rw [h5] at h4
    exact h4.symm
  have hs : (BitVec.ofInt 64 (s : Int)).toNat = s := by
    rw [BitVec.ofInt_natCast, BitVec.toNat_ofNat]; exact Nat.mod_eq_of_lt (by omega)
  have hp : (BitVec.ofInt 64 ((2 ^ k : Nat) : Int)).toNat = 2 ^ k := by
    rw [BitVec.ofInt_natCast, BitVec.toNat_ofNat]; exact Nat.mod_eq_of_lt (by omega)
  show IntKind.i64.wrap ((BitVec.ofInt 64 (s : Int) ||| BitVec.ofInt 64 ((2 ^ k : Nat) : Int)).toNat : Int) = _
  rw [BitVec.toNat_or, hs, hp, h3, IntKind.wrap_i64]
  have h6 : s + 2 ^ k ≤ 4294967296 := by
    have : 2 ^ k ≤ 2 ^ (k + 1) := Nat.pow_le_pow_right (by omega) (by omega)
    omega
  generalize s + 2 ^ k = x at h6
  omega

theorem root_yes {a k s : Nat} (h : RootRel a (k + 1) s) (hle : (s + 2 ^ k) * (s + 2 ^ k) ≤ a) : RootRel a k (s + 2 ^ k) := by
  have h2 : s + 2 ^ k + 2 ^ k = s + 2 ^ (k + 1) := by rw [Nat.pow_succ]; omega
  refine ⟨hle, by rw [h2]; exact h.hi, ?_, by rw [h2]; exact h.top⟩
  have h1 := Nat.mod_mod_of_dvd s (Nat.pow_dvd_pow 2 (show k ≤ k + 1 by omega))
  rw [h.div, Nat.zero_mod] at h1
  rw [Nat.add_mod_right]
  exact h1.symm

theorem root_no {a k s : Nat} (h : RootRel a (k + 1) s) (hlt : a < (s + 2 ^ k) * (s + 2 ^ k)) : RootRel a k s := by
  have h1 := Nat.mod_mod_of_dvd s (Nat.pow_dvd_pow 2 (show k ≤ k + 1 by omega))
  rw [h.div, Nat.zero_mod] at h1
  have h2 : 2 ^ k ≤ 2 ^ (k + 1) := Nat.pow_le_pow_right (by omega) (by omega)
  exact ⟨h.lo, hlt, h1.symm, by have := h.top; omega⟩

set_option maxHeartbeats 1600000 in
set_option maxRecDepth 100000 in
theorem root_any (a : Nat) (w : World) (h2 : a ≤ 9223372036854775807) :
    Calls Tryd.prog 27 #[.int .i64 (a : Int)] w fun e w' => (∃ s : Nat, e = .returned (.tuple #[.int .i64 (s : Int), .int .i64 ((a - s * s : Nat) : Int), .bool true]) ∧ s * s ≤ a ∧ a < (s + 1) * (s + 1)) ∧ w = w' := by
  have haB : decide ((a : Int) < 0) = false := decide_eq_false (by omega)
  go_enter Tryd.func27, Tryd.ntmps27
  go_wp2_with fail
  go_loop [5, 10] (fun rv iv => ∃ (s i : Nat), rv = .int .i64 (s : Int) ∧ iv = .int .i64 (i : Int) ∧ i ≤ 32 ∧ RootRel a (32 - i) s) (fun _ iv => 32 - (intOf iv).toNat)
  case atStart => exact ⟨0, 0, rfl, rfl, by omega, ⟨by omega, by simp; omega, by simp, by omega⟩⟩
  case round =>
    obtain ⟨s, i, rfl, rfl, hi, hr⟩ := hrel
    by_cases hlt : i < 32
    · rw [show 32 - i = 31 - i + 1 by omega] at hr
      have hor := or_bit s (31 - i) (by omega) hr.div hr.top
      obtain ⟨M, HM⟩ : ∃ M, Hid (s + 2 ^ (31 - i) = M) := ⟨_, rfl⟩
      have hpos : 0 < 2 ^ (31 - i) := Nat.pow_pos (by omega)
      have hMt : 0 < M ∧ M ≤ 4294967296 := by
        have h1 := HM.out
        have h3 := hr.top
        have h4 : 2 ^ (31 - i) ≤ 2 ^ (31 - i + 1) := Nat.pow_le_pow_right (by omega) (by omega)
        omega
      have HY : Hid (M * M ≤ a → RootRel a (31 - i) M) := by
        rw [← HM.out]; exact root_yes hr
      have HNO : Hid (a < M * M → RootRel a (31 - i) s) := by
        rw [← HM.out]; exact root_no hr
      rw [HM.out] at hor
      have hM0 := hMt.1
      have hMs := hMt.2
      have hMi : ¬ ((M : Int) = 0) := by omega
      obtain ⟨d, HD⟩ : ∃ d, Hid (a / M = d) := ⟨_, rfl⟩
      have hda : d ≤ a := by rw [← HD.out]; exact Nat.div_le_self _ _
      have hq : (a : Int) / (M : Int) = (d : Int) := by rw [← HD.out, Int.natCast_ediv]
      have hqt : Int.tdiv (a : Int) (M : Int) = (d : Int) := by rw [← HD.out]; exact (Int.ofNat_tdiv a M).symm
      clear hr hpos hMt
      by_cases hle : M ≤ d
      · have HR := Lib.hid (HY.out ((Nat.le_div_iff_mul_le hM0).1 (by rw [HD.out]; exact hle)))
        go_wp2_with fail
        go_round
        case rel => exact ⟨M, i + 1, rfl, by go_num, by omega, by rw [show 32 - (i + 1) = 31 - i by omega]; exact HR.out⟩
        case measure => simp [intOf]; omega
      · have HR := Lib.hid (HNO.out (by have h9 : ¬ (M * M ≤ a) := fun h => hle (by rw [← HD.out]; exact (Nat.le_div_iff_mul_le hM0).2 h)
                                        omega))
        go_wp2_with fail
        go_round
        case rel => exact ⟨s, i + 1, rfl, by go_num, by omega, by rw [show 32 - (i + 1) = 31 - i by omega]; exact HR.out⟩
        case measure => simp [intOf]; omega
    · have h32 : i = 32 := by omega
      subst h32
      have hlo := hr.lo
      have hhi := hr.hi
      simp only [Nat.sub_self, Nat.pow_zero] at hhi
      obtain ⟨q, HQ⟩ : ∃ q, Hid (s * s = q) := ⟨_, rfl⟩
      have hsq : (s : Int) * (s : Int) = (q : Int) := by rw [← HQ.out, Int.natCast_mul]
      have HSQ := Lib.hid hsq
      have HLO : Hid (q ≤ a) := by rw [← HQ.out]; exact hlo
      have HS : Hid (s * s ≤ a ∧ a < (s + 1) * (s + 1)) := ⟨hlo, hhi⟩
      rw [HQ.out] at hlo
      clear hhi hr
      go_wp2_with fail
      go_ret3
      exact ⟨⟨s, by rw [HQ.out]; have h9 := HSQ.out; have h10 := HLO.out; rw [Int.natCast_sub h10, ← h9]; rfl, HS.out.1, HS.out.2⟩, rfl⟩

end Go.Proofs.YtfjoahbboglgfaaDoor
