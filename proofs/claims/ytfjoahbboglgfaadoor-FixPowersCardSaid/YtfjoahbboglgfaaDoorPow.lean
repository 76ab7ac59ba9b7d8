/- The powers of any number, as package fix returns them. -/
import Derived.Test.YtfjoahbboglgfaaDoorBack
namespace Go.Proofs.YtfjoahbboglgfaaDoor
open Go.RowKit

theorem pow_abs (a : Int) (n : Nat) : (a ^ n).natAbs = a.natAbs ^ n := Int.natAbs_pow a n
theorem pow_far {a : Int} {m n : Nat} (hmn : m ≤ n) (h : ¬ Is64 (a ^ m)) : ¬ Is64 (a ^ n) := by
  rcases Nat.eq_or_lt_of_le hmn with he | hlt
  · rw [← he]; exact h
  · have h1 : 9223372036854775808 ≤ a.natAbs ^ m := by
      rw [← pow_abs]
      unfold Is64 at h
      omega
    have h2 : 2 ≤ a.natAbs := by
      rcases Nat.lt_or_ge a.natAbs 2 with h3 | h3
      · have h4 : a.natAbs = 0 ∨ a.natAbs = 1 := by omega
        rcases h4 with h4 | h4
        · rw [h4] at h1
          rcases m with _ | m
          · simp at h1
          · rw [Nat.zero_pow (by omega)] at h1; omega
        · rw [h4, Nat.one_pow] at h1; omega
      · exact h3
    have h5 : a.natAbs ^ (m + 1) ≤ a.natAbs ^ n := Nat.pow_le_pow_right (by omega) hlt
    rw [Nat.pow_succ] at h5
    have h6 : a.natAbs ^ m * 2 ≤ a.natAbs ^ m * a.natAbs := Nat.mul_le_mul_left _ h2
    have h7 := pow_abs a n
    unfold Is64
    omega

theorem bitLen_lt : ∀ (k m : Nat), m < 2 ^ k → k ≤ 64 → m < 2 ^ Lib.bitLen m ∧ Lib.bitLen m ≤ k
  | 0, m, h, _ => by
    have : m = 0 := by simpa using h
    subst this
    exact ⟨by decide, by decide⟩
  | k + 1, m, h, hk => by
    by_cases h0 : m = 0
    · subst h0; exact ⟨by decide, by have : Lib.bitLen 0 = 0 := by decide
                                     omega⟩
    · have h64 : m < 2 ^ 64 := Nat.lt_of_lt_of_le h (Nat.pow_le_pow_right (by omega) hk)
      have h1 := bitLen_lt k (m / 2) (by rw [Nat.pow_succ] at h; omega) (by omega)
      rw [Lib.bitLen_half m h0 h64]
      refine ⟨?_, by omega⟩
      rw [Nat.add_comm, Nat.pow_succ]
      have := h1.1
      omega

/-- What the head of Pow's loop knows. -/
structure PowRel (a : Int) (m j : Nat) (P : Int) (f : Bool) : Prop where
  j63 : j ≤ 63
  num : P = fitV (a ^ (m / 2 ^ j))
  fit : f = fitB (a ^ (m / 2 ^ j))

theorem and_one (x : Nat) (hx : x < 9223372036854775808) : bits .and .i64 (x : Int) 1 = ((x % 2 : Nat) : Int) := by
  have h1 : (BitVec.ofInt 64 (x : Int)).toNat = x := by
    rw [BitVec.ofInt_natCast, BitVec.toNat_ofNat]; exact Nat.mod_eq_of_lt (by omega)
  show IntKind.i64.wrap ((BitVec.ofInt 64 (x : Int) &&& BitVec.ofInt 64 (1 : Int)).toNat : Int) = _
  rw [BitVec.toNat_and, h1, show (BitVec.ofInt 64 (1 : Int)).toNat = 1 by decide, show (1 : Nat) = 2 ^ 1 - 1 by decide, Nat.and_two_pow_sub_one_eq_mod, IntKind.wrap_i64]
  omega
theorem half_bits (m i : Nat) : m / 2 ^ i = 2 * (m / 2 ^ (i + 1)) + (m / 2 ^ i) % 2 := by
  rw [Nat.pow_succ, ← Nat.div_div_eq_div_mul]
  omega

set_option maxHeartbeats 1600000 in
set_option maxRecDepth 100000 in
theorem pow_any (a n : Int) (w : World) (h1 : -9223372036854775808 ≤ a) (h2 : a ≤ 9223372036854775807) (h3 : 0 ≤ n) (h4 : n ≤ 9223372036854775807) :
    Calls Tryd.prog 26 #[.int .i64 a, .int .i64 n] w fun e w' => e = .returned (.tuple #[.int .i64 (fitV (a ^ n.toNat)), .bool (fitB (a ^ n.toNat))]) ∧ w = w' := by
  obtain ⟨m, rfl⟩ : ∃ m : Nat, n = m := ⟨n.toNat, by omega⟩
  rw [Int.toNat_natCast]
  have hb := bitLen_lt 63 m (by omega) (by omega)
  have hlen := fun w => Tryd.bits_Len (m : Int) w (by omega) (by omega)
  rw [Int.toNat_natCast] at hlen
  obtain ⟨j0, HJ⟩ : ∃ j0, Hid (Lib.bitLen m = j0) := ⟨_, rfl⟩
  rw [HJ.out] at hb hlen
  have HLEN := Lib.hid hlen
  have hj0 := hb.2
  have HR0 : Hid (PowRel a m j0 1 true) := Lib.hid ⟨hj0, by rw [Nat.div_eq_of_lt hb.1, Int.pow_zero]; rfl, by rw [Nat.div_eq_of_lt hb.1, Int.pow_zero]; rfl⟩
  have hmB : decide ((m : Int) < 0) = false := decide_eq_false (by omega)
  clear hlen hb
  go_enter Tryd.func26, Tryd.ntmps26
  go_wp2_with fail
  refine (HLEN.out _).mono ?_
  rintro e w' ⟨rfl, rfl⟩
  go_wp2_with fail
  go_loop [6, 7, 8] (fun pv fv bv => ∃ (j : Nat) (P : Int) (f : Bool), pv = .int .i64 P ∧ fv = .bool f ∧ bv = .int .i64 ((j : Int) - 1) ∧ PowRel a m j P f) (fun _ _ bv => (intOf bv + 1).toNat)
  case atStart => exact ⟨j0, 1, true, rfl, rfl, rfl, HR0.out⟩
  case round =>
    obtain ⟨j, P, f, rfl, rfl, rfl, hr⟩ := hrel
    rcases hf : f with _ | _
    · subst hf
      have hno : ¬ Is64 (a ^ (m / 2 ^ j)) := by
        intro h
        have h9 := hr.fit
        rw [fitB_yes h] at h9
        cases h9
      have hP : P = 0 := by rw [hr.num, fitV_no hno]
      subst hP
      have HF := Lib.hid (pow_far (Nat.div_le_self m (2 ^ j)) hno)
      have hj := hr.j63
      clear hno hr
      rcases j with _ | i
      all_goals
        go_wp2_with fail
        go_ret2
        exact ⟨ret_no HF.out, rfl⟩
    · subst hf
      have hj := hr.j63
      rcases j with _ | i
      · have h8 := hr.num
        have h9 := hr.fit
        rw [Nat.pow_zero, Nat.div_one] at h8 h9
        have H8 := Lib.hid h8
        have H9 := Lib.hid h9
        clear h8 h9 hr
        go_wp2_with fail
        go_ret2
        exact ⟨ret_fit H8.out H9.out, rfl⟩
      · obtain ⟨q, HQ⟩ : ∃ q, Hid (m / 2 ^ (i + 1) = q) := ⟨_, rfl⟩
        have hfit : Is64 (a ^ q) := by
          by_cases h : Is64 (a ^ q)
          · exact h
          · have h9 := hr.fit
            rw [HQ.out, fitB_no h] at h9
            cases h9
        have HP : Hid (P = a ^ q) := by unfold Hid; rw [hr.num, HQ.out, fitV_yes hfit]
        have hpb : Is64 P := by rw [HP.out]; exact hfit
        have hmul := fun w => mul_any P P w hpb.1 hpb.2 hpb.1 hpb.2
        have hsqe : P * P = a ^ (2 * q) := by rw [HP.out, ← Int.pow_add]; congr 1; omega
        have hx : m / 2 ^ i < 9223372036854775808 := Nat.lt_of_le_of_lt (Nat.div_le_self _ _) (by omega)
        obtain ⟨x, HX⟩ : ∃ x, Hid (m / 2 ^ i = x) := ⟨_, rfl⟩
        have hxi : (m : Int) / 2 ^ i = (x : Int) := by
          rw [← HX.out, Int.natCast_ediv, Int.natCast_pow]
          rfl
        rw [HX.out] at hx
        have hbit := and_one x hx
        have HXQ : Hid (x = 2 * q + x % 2) := by
          have h9 := half_bits m i
          rw [HQ.out, HX.out] at h9
          exact h9
        by_cases hsq : Is64 (P * P)
        · rw [fitV_yes hsq, fitB_yes hsq] at hmul
          obtain ⟨S, HS⟩ : ∃ S, Hid (P * P = S) := ⟨_, rfl⟩
          rw [HS.out] at hmul hsq
          have HSE : Hid (S = a ^ (2 * q)) := by unfold Hid; rw [← HS.out]; exact hsqe
          have HMUL := Lib.hid hmul
          have hmul2 := fun w => mul_any S a w hsq.1 hsq.2 h1 h2
          have HSF := Lib.hid hsq
          obtain ⟨z, HZ⟩ : ∃ z, Hid (S * a = z) := ⟨_, rfl⟩
          rw [HZ.out] at hmul2
          have HMUL2 := Lib.hid hmul2
          by_cases hr2 : x % 2 = 1
          · rw [hr2] at hbit
            have HN : Hid (a ^ (m / 2 ^ i) = z) := by
              unfold Hid
              rw [HX.out, show x = 2 * q + 1 by have := HXQ.out; omega, Int.pow_succ, ← HSE.out, HZ.out]
            clear hmul hmul2 hsq hsqe hr hfit hpb hr2
            go_wp2_with fail
            refine (HMUL.out _).mono ?_
            rintro e w' ⟨rfl, rfl⟩
            go_wp2_with fail
            refine (HMUL2.out _).mono ?_
            rintro e w' ⟨rfl, rfl⟩
            go_wp2_with fail
            go_round
            case rel => exact ⟨i, fitV z, fitB z, rfl, rfl, by go_num, ⟨by omega, by rw [HN.out], by rw [HN.out]⟩⟩
            case measure => simp [intOf]
          · have hr3 : x % 2 = 0 := by omega
            rw [hr3] at hbit
            have HN : Hid (a ^ (m / 2 ^ i) = S) := by
              unfold Hid
              rw [HX.out, show x = 2 * q by have := HXQ.out; omega, ← HSE.out]
            clear hmul hmul2 hsq hsqe hr hfit hpb hr2 hr3
            go_wp2_with fail
            refine (HMUL.out _).mono ?_
            rintro e w' ⟨rfl, rfl⟩
            go_wp2_with fail
            go_round
            case rel => exact ⟨i, S, true, rfl, rfl, by go_num, ⟨by omega, by rw [HN.out, fitV_yes HSF.out], by rw [HN.out, fitB_yes HSF.out]⟩⟩
            case measure => simp [intOf]
        · rw [fitV_no hsq, fitB_no hsq] at hmul
          have HMUL := Lib.hid hmul
          have HN : Hid (¬ Is64 (a ^ (m / 2 ^ i))) := by
            unfold Hid
            rw [hsqe] at hsq
            exact pow_far (by rw [HX.out]; have := HXQ.out; omega) hsq
          clear hmul hsq hsqe hr hfit hpb
          go_wp2_with fail
          refine (HMUL.out _).mono ?_
          rintro e w' ⟨rfl, rfl⟩
          go_wp2_with fail
          go_round
          case rel => exact ⟨i, 0, false, rfl, rfl, by go_num, ⟨by omega, (fitV_no HN.out).symm, (fitB_no HN.out).symm⟩⟩
          case measure => simp [intOf]

theorem pow_neg (a n : Int) (w : World) (hn : n < 0) : Calls Tryd.prog 26 #[.int .i64 a, .int .i64 n] w fun e w' => e = .returned (.tuple #[.int .i64 0, .bool false]) ∧ w = w' := by
  go_enter Tryd.func26, Tryd.ntmps26
  go_wp2_with fail
  go_ret2
  exact ⟨rfl, rfl⟩

end Go.Proofs.YtfjoahbboglgfaaDoor
