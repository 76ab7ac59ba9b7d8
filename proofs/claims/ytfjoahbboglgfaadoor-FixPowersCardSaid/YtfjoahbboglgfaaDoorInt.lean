/- The number of a row of digits with a sign, or that it doesn't fit; whether an answer is such a number; whether two such numbers are the same. -/
import Derived.Test.YtfjoahbboglgfaaDoorSum
namespace Go.Proofs.YtfjoahbboglgfaaDoor
open Go.RowKit

theorem canon_take {ds : List Nat} (h : Canon ds) {k : Nat} (hk : k ≤ ds.length) (hc : Canon (ds.take k)) (hv : val (ds.take k) = val ds) : k = ds.length := by
  rcases Nat.lt_or_ge k ds.length with hl | hl
  · have := len_lt hc.1 h (by rw [List.length_take]; omega)
    omega
  · omega

theorem trim_canon (A : Option Addr) (c : Nat) (ds : List Nat) (w : World) (h : Row w A c ds) (hl : ds.length ≤ 1000) (hd : Canon ds) :
    Calls Tryd.prog 36 #[.slice A ds.length c] w fun e w' => e = .returned (.slice A ds.length c) ∧ w = w' := by
  refine (trim_any A c ds w h hl hd.1).mono ?_
  rintro e w' ⟨⟨k, hk, rfl, hc, hv⟩, rfl⟩
  rw [canon_take hd hk hc hv]
  exact ⟨rfl, rfl⟩

theorem val_drop_le (a : List Nat) (k : Nat) : val (a.drop k) ≤ val a := by
  rcases Nat.lt_or_ge k a.length with h | h
  · have h1 := val_split a k (by omega)
    have h2 : 1 * val (a.drop k) ≤ 10 ^ k * val (a.drop k) := Nat.mul_le_mul_right _ (Nat.pow_pos (by omega))
    omega
  · rw [List.drop_eq_nil_of_le h]; exact Nat.zero_le _

theorem fit_no {x : Bool} {n : Nat} (h : 9223372036854775808 < n ∨ (n = 9223372036854775808 ∧ x = false)) : ¬ Is64 (sgn x n) := by
  unfold Is64 sgn
  rcases h with h | ⟨h, rfl⟩
  · split <;> omega
  · simp; omega
theorem fit_yes {x : Bool} {n : Nat} (h : n < 9223372036854775808 ∨ (n = 9223372036854775808 ∧ x = true)) : Is64 (sgn x n) := by
  unfold Is64 sgn
  rcases h with h | ⟨h, rfl⟩
  · split <;> omega
  · simp; omega

theorem field_1 (x : Bool) (C : Option Addr) (n cc : Nat) (w : World) : (Instr.field 24 (.agg #[.bool x, .slice C n cc]) 1).run Tryd.prog w = .ok (.slice C n cc) w := by kernel_rfl

set_option maxHeartbeats 1600000 in
set_option maxRecDepth 100000 in
theorem int_any (A : Option Addr) (c : Nat) (ds : List Nat) (x : Bool) (w : World) (h : Row w A c ds) (hl : ds.length ≤ 400) (hd : Canon ds) :
    Calls Tryd.prog 32 #[.agg #[.bool x, .slice A ds.length c]] w fun e w' => e = .returned (.tuple #[.int .i64 (fitV (sgn x (val ds))), .bool (fitB (sgn x (val ds)))]) ∧ Below w.heap.size w w' := by
  have h1 := (Below.refl w.heap.size w).alloc (Nat.le_refl _) (.cells #[.bool x, .slice A ds.length c] 24)
  have hr1 := h.below h1
  have e1 := heap_alloc_new w (.cells #[.bool x, .slice A ds.length c] 24)
  have H1 := Lib.hid h1
  have E1 := Lib.hid e1
  clear h1 e1
  have hfl := field_1
  go_enter Tryd.func32, Tryd.ntmps32
  go_wp2_with fail
  generalize (w.alloc (.cells #[.bool x, .slice A ds.length c] 24)) = W at *
  refine (trim_canon A c ds _ hr1 (by omega) hd).mono ?_
  rintro e w' ⟨rfl, rfl⟩
  go_wp2_with fail
  refine (of_any (-9223372036854775808) _ (by omega) (by omega)).mono ?_
  rintro e w1 ⟨⟨C, cc, ls, rfl, hls, hcl, hvl⟩, hb1⟩
  have hvl2 : val ls = 9223372036854775808 := by rw [hvl]; rfl
  have HVL := Lib.hid hvl2
  clear hvl hvl2
  have hr2 := hr1.below hb1
  have E2 := Lib.hid (bcell hb1 E1.out)
  have HW := Lib.hid (H1.out.trans (hb1.mono H1.out.size))
  have hll : ls.length ≤ 400 := by
    have : ls.length ≤ 20 := canon_len hcl 20 (by rw [HVL.out]; decide)
    omega
  go_wp2_with fail
  refine (cmp_any A C c cc ds ls _ hr2 hls (by omega) (by omega) hd hcl).mono ?_
  rintro e w2 ⟨rfl, n, rfl⟩
  rw [HVL.out]
  have k0 := blk_cell E2.out 0
  simp at k0
  have hend : ∀ W2 : World, Below w1.heap.size w1 W2 → Below w.heap.size w W2 := fun W2 hb2 => HW.out.trans (hb2.mono HW.out.size)
  have HEND := Lib.hid hend
  clear hend
  have hdr := (Below.refl w1.heap.size w1)
  by_cases hgt : 9223372036854775808 < val ds
  · rw [cmpN_gt hgt]
    have hno := Lib.hid (fit_no (x := x) (.inl hgt))
    clear hgt
    go_wp2_with fail
    go_ret2
    exact ⟨ret_no hno.out, HEND.out _ (below_drewN hdr n)⟩
  · have HLE : Hid (val ds ≤ 9223372036854775808) := Lib.hid (by omega)
    by_cases heq : val ds = 9223372036854775808
    · rw [cmpN_eq heq]
      cases x
      · have hno := Lib.hid (fit_no (x := false) (.inr ⟨heq, rfl⟩))
        clear heq hgt
        go_wp2_with fail
        go_ret2
        exact ⟨ret_no hno.out, HEND.out _ (below_drewN hdr n)⟩
      · have hyes := Lib.hid (fit_yes (x := true) (.inr ⟨heq, rfl⟩))
        clear heq hgt
        go_wp2_with fail
        go_loop [7, 8] (fun av iv => ∃ k V : Nat, av = .int .i64 (-(V : Int)) ∧ iv = .int .i64 ((k : Int) - 1) ∧ k ≤ ds.length ∧ Hid (val (ds.drop k) = V)) (fun _ iv => (intOf iv + 1).toNat)
        case atStart => exact ⟨ds.length, 0, rfl, rfl, Nat.le_refl _, by unfold Hid; rw [List.drop_eq_nil_of_le (Nat.le_refl _)]; rfl⟩
        case round =>
          obtain ⟨k, V, rfl, rfl, hk, HV⟩ := hrel
          rcases k with _ | j
          · have hV0 : V = val ds := by rw [← HV.out]; rfl
            have hVb : V ≤ 9223372036854775808 := by rw [hV0]; exact HLE.out
            have HV0 := Lib.hid hV0
            clear hV0
            go_wp2_with fail
            go_ret2
            exact ⟨ret_yes hyes.out (by rw [HV0.out]; rfl), HEND.out _ (below_drewN hdr n)⟩
          · obtain ⟨g, rfl, hcell⟩ := hr2.cell (k := j) (by omega)
            obtain ⟨X, HX⟩ : ∃ X, Hid (ds.getD j 0 = X) := ⟨_, rfl⟩
            rw [HX.out] at hcell
            have hVd := val_drop ds j (by omega)
            rw [HV.out, HX.out] at hVd
            have hVle := val_drop_le ds j
            have hb1 : X + 10 * V ≤ 9223372036854775808 := by have := HLE.out; omega
            have HVD : Hid (val (ds.drop j) = X + 10 * V) := hVd
            clear hVd hVle hr2
            go_wp2_with fail
            go_round
            case rel => exact ⟨j, X + 10 * V, by go_num, by go_num, by omega, HVD⟩
            case measure => simp [intOf]
    · rw [cmpN_lt (by omega)]
      have hyes := Lib.hid (fit_yes (x := x) (.inl (by omega : val ds < 9223372036854775808)))
      have HLT : Hid (val ds < 9223372036854775808) := Lib.hid (by omega)
      clear heq hgt
      cases x
      · go_wp2_with fail
        go_loop [7, 8] (fun av iv => ∃ k V : Nat, av = .int .i64 (-(V : Int)) ∧ iv = .int .i64 ((k : Int) - 1) ∧ k ≤ ds.length ∧ Hid (val (ds.drop k) = V)) (fun _ iv => (intOf iv + 1).toNat)
        case atStart => exact ⟨ds.length, 0, rfl, rfl, Nat.le_refl _, by unfold Hid; rw [List.drop_eq_nil_of_le (Nat.le_refl _)]; rfl⟩
        case round =>
          obtain ⟨k, V, rfl, rfl, hk, HV⟩ := hrel
          rcases k with _ | j
          · have hV0 : V = val ds := by rw [← HV.out]; rfl
            have hVb : V ≤ 9223372036854775808 := by rw [hV0]; exact HLE.out
            have hVc : V ≤ 9223372036854775807 := by rw [hV0]; have := HLT.out; omega
            have HV0 := Lib.hid hV0
            clear hV0
            go_wp2_with fail
            go_ret2
            exact ⟨ret_yes hyes.out (by have hh := HV0.out; rw [sgn_f]; omega), HEND.out _ (below_drewN hdr n)⟩
          · obtain ⟨g, rfl, hcell⟩ := hr2.cell (k := j) (by omega)
            obtain ⟨X, HX⟩ : ∃ X, Hid (ds.getD j 0 = X) := ⟨_, rfl⟩
            rw [HX.out] at hcell
            have hVd := val_drop ds j (by omega)
            rw [HV.out, HX.out] at hVd
            have hVle := val_drop_le ds j
            have hb1 : X + 10 * V ≤ 9223372036854775808 := by have := HLE.out; omega
            have HVD : Hid (val (ds.drop j) = X + 10 * V) := hVd
            clear hVd hVle hr2
            go_wp2_with fail
            go_round
            case rel => exact ⟨j, X + 10 * V, by go_num, by go_num, by omega, HVD⟩
            case measure => simp [intOf]
      · go_wp2_with fail
        go_loop [7, 8] (fun av iv => ∃ k V : Nat, av = .int .i64 (-(V : Int)) ∧ iv = .int .i64 ((k : Int) - 1) ∧ k ≤ ds.length ∧ Hid (val (ds.drop k) = V)) (fun _ iv => (intOf iv + 1).toNat)
        case atStart => exact ⟨ds.length, 0, rfl, rfl, Nat.le_refl _, by unfold Hid; rw [List.drop_eq_nil_of_le (Nat.le_refl _)]; rfl⟩
        case round =>
          obtain ⟨k, V, rfl, rfl, hk, HV⟩ := hrel
          rcases k with _ | j
          · have hV0 : V = val ds := by rw [← HV.out]; rfl
            have hVb : V ≤ 9223372036854775808 := by rw [hV0]; exact HLE.out
            have HV0 := Lib.hid hV0
            clear hV0
            go_wp2_with fail
            go_ret2
            exact ⟨ret_yes hyes.out (by rw [HV0.out]; rfl), HEND.out _ (below_drewN hdr n)⟩
          · obtain ⟨g, rfl, hcell⟩ := hr2.cell (k := j) (by omega)
            obtain ⟨X, HX⟩ : ∃ X, Hid (ds.getD j 0 = X) := ⟨_, rfl⟩
            rw [HX.out] at hcell
            have hVd := val_drop ds j (by omega)
            rw [HV.out, HX.out] at hVd
            have hVle := val_drop_le ds j
            have hb1 : X + 10 * V ≤ 9223372036854775808 := by have := HLE.out; omega
            have HVD : Hid (val (ds.drop j) = X + 10 * V) := hVd
            clear hVd hVle hr2
            go_wp2_with fail
            go_round
            case rel => exact ⟨j, X + 10 * V, by go_num, by go_num, by omega, HVD⟩
            case measure => simp [intOf]

end Go.Proofs.YtfjoahbboglgfaaDoor
