/- The law FixPowers, for -1 and great powers. -/
import Derived.Test.YtfjoahbboglgfaaDoorPws
namespace Go.Proofs.YtfjoahbboglgfaaDoor
open Go.ChangeShapes Go.WideShapes Go.ChangeAt Go.RowKit

set_option maxHeartbeats 6400000 in
set_option maxRecDepth 100000 in
theorem powers_c5e (m : Nat) (w : World) (ht : Tabs w) (h4 : (m : Int) ≤ 9223372036854775807) (hm7 : 70 ≤ m) (hm : m % 2 = 0) :
    Calls Tryd.prog 7 #[.int .i64 (-1), .int .i64 (m : Int)] w fun e w' => e = .returned (.bool true) ∧ Below w.heap.size w w' := by
  have hnB : decide ((m : Int) < 0) = false := decide_eq_false (by omega)
  have hc3 : decide ((m : Int) < 70) = false := decide_eq_false (by omega)
  have hm1 : (m : Int) % 2 = 0 := by omega
  have hm2 : (m : Int).tmod 2 = 0 := by rw [Int.tmod_eq_emod_of_nonneg (by omega)]; exact hm1
  have hkm : (-1 : Int) ^ m = 1 := neg_one_even hm
  have hfk : Is64 (1 : Int) := ⟨by omega, by omega⟩
  have HV : Hid (fitV ((-1 : Int) ^ ((m : Int)).toNat) = 1) := by unfold Hid; rw [Int.toNat_natCast, hkm]; exact fitV_yes hfk
  have HB0 : Hid (fitB ((-1 : Int) ^ ((m : Int)).toNat) = true) := by unfold Hid; rw [Int.toNat_natCast, hkm]; exact fitB_yes hfk
  clear hkm hfk
  have hfl := field_1
  go_enter Tryd.func7, Tryd.ntmps7
  go_wp2_with fail
  refine (pow_val (-1 : Int) (m : Int) 1 true _ (by omega) (by omega) (by omega) h4 HV HB0).mono ?_
  rintro e w0 ⟨rfl, rfl⟩
  go_wp2_with fail
  have HW := Lib.hid (Below.refl w.heap.size w)
  go_wp2_with fail
  refine (root_neg (-1 : Int) _ (by omega)).mono ?_
  rintro e w3 ⟨rfl, rfl⟩
  go_wp2_with fail
  refine (lives_any _ (ht.below HW.out)).mono ?_
  rintro e w5 ⟨rfl, hb5⟩
  have HB5 := Lib.hid (HW.out.trans (hb5.mono HW.out.size))
  clear hb5
  go_wp2_with fail
  go_ret
  exact ⟨rfl, HB5.out⟩

set_option maxHeartbeats 6400000 in
set_option maxRecDepth 100000 in
theorem powers_c5o (m : Nat) (w : World) (ht : Tabs w) (h4 : (m : Int) ≤ 9223372036854775807) (hm7 : 70 ≤ m) (hm : m % 2 = 1) :
    Calls Tryd.prog 7 #[.int .i64 (-1), .int .i64 (m : Int)] w fun e w' => e = .returned (.bool true) ∧ Below w.heap.size w w' := by
  have hnB : decide ((m : Int) < 0) = false := decide_eq_false (by omega)
  have hc3 : decide ((m : Int) < 70) = false := decide_eq_false (by omega)
  have hm1 : (m : Int) % 2 = 1 := by omega
  have hm2 : (m : Int).tmod 2 = 1 := by rw [Int.tmod_eq_emod_of_nonneg (by omega)]; exact hm1
  have hkm : (-1 : Int) ^ m = (-1) := neg_one_odd hm
  have hfk : Is64 ((-1) : Int) := ⟨by omega, by omega⟩
  have HV : Hid (fitV ((-1 : Int) ^ ((m : Int)).toNat) = (-1)) := by unfold Hid; rw [Int.toNat_natCast, hkm]; exact fitV_yes hfk
  have HB0 : Hid (fitB ((-1 : Int) ^ ((m : Int)).toNat) = true) := by unfold Hid; rw [Int.toNat_natCast, hkm]; exact fitB_yes hfk
  clear hkm hfk
  have hfl := field_1
  go_enter Tryd.func7, Tryd.ntmps7
  go_wp2_with fail
  refine (pow_val (-1 : Int) (m : Int) (-1) true _ (by omega) (by omega) (by omega) h4 HV HB0).mono ?_
  rintro e w0 ⟨rfl, rfl⟩
  go_wp2_with fail
  have HW := Lib.hid (Below.refl w.heap.size w)
  go_wp2_with fail
  refine (root_neg (-1 : Int) _ (by omega)).mono ?_
  rintro e w3 ⟨rfl, rfl⟩
  go_wp2_with fail
  refine (lives_any _ (ht.below HW.out)).mono ?_
  rintro e w5 ⟨rfl, hb5⟩
  have HB5 := Lib.hid (HW.out.trans (hb5.mono HW.out.size))
  clear hb5
  go_wp2_with fail
  go_ret
  exact ⟨rfl, HB5.out⟩

end Go.Proofs.YtfjoahbboglgfaaDoor
