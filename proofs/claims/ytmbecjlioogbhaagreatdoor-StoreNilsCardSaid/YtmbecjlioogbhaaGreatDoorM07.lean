/- Texts Dec to Newest of this seat, laid into one. -/
import Derived.WalkSmall
import Derived.Deep.CutBlock
import Derived.Deep.DeepCutAuto
import Derived.Test.YtmbecjlioogbhaaGreatDoorM06
set_option linter.unusedVariables false
set_option linter.unusedSimpArgs false
set_option linter.constructorNameAsVariable false
section
/-! What Decode returns. -/
set_option maxRecDepth 20000
namespace Go.Proofs.YtmbecjlioogbhaaGreatDoor
open Go.RowKit

theorem toldI_or (s : List Nat) (hd : ∀ x ∈ s, x < 256) : toldI s = told s ∨ (may (toldI s) = false ∧ may (told s) = false) := by
  have h8 : val (s.take 8) < 18446744073709551616 := val_take_lt s 8 8 hd (Nat.le_refl _)
  by_cases h : val (s.take 8) < 9223372036854775808
  · left
    unfold toldI told
    rw [toI_small h]
  · right
    constructor
    · cases hb : may (toldI s) with
      | false => rfl
      | true =>
        have h1 := (may_yes hb).e0
        have h2 := (may_yes hb).e1
        unfold toldI at h1 h2
        simp only at h1 h2
        unfold toI at h1 h2
        rw [if_neg h] at h1 h2
        omega
    · cases hb : may (told s) with
      | false => rfl
      | true =>
        have h2 := (may_yes hb).e1
        unfold told at h2
        simp only at h2
        omega
theorem zs_dig : ∀ x ∈ zs128, x < 256 := dig_zeros 128
/-- A string of zeros out of a slice that was made. -/
theorem zeros_conv {w : World} {g : Nat} (h : w.ownsRow 0 5 1 (.slice (some ⟨g, 0, none⟩) 128 128) 128 (madeCells #[Value.int .u8 0] (128 * 1)).toList) :
    (convert 71 9 (.slice (some ⟨g, 0, none⟩) 128 128)).run Tryz.prog w = .ok (.string (strB zs128)) w := by
  rw [Nat.mul_one, made_u8s] at h
  exact (Row5.bys h (dig_zeros 128)).conv 128
section
variable (S : ByteArray) (s : List Nat) (w : World)
set_option maxHeartbeats 400000 in
theorem decode_len (hS : IsS S s) (h : s.length ≠ 128) : Calls Tryz.prog 202 #[.string S] w fun e w' => e = .returned (.tuple #[Rt.none_.val, .int .i64 1]) ∧ Below w.heap.size w w' := by
  have hd : ((S.size : Int) != 128) = true := by rw [hS.size]; simp; omega
  clear h hS
  unfold Rt.val Rt.none_
  go_enter Tryz.func202, Tryz.ntmps202
  go_wp2_with fail
  exact bodyPost_ret (v := .tuple #[.agg #[.int .i64 0, .int .i64 0, .int .i64 0, .int .i64 0], .int .i64 1]) (by simp [results, Tryz.results202, go_sem]) rfl ⟨rfl, (Below.refl _ _).alloc (Nat.le_refl _) _⟩
set_option maxHeartbeats 800000 in
theorem decode_zeros (hS : IsS S s) (hl : s.length = 128) (h : s = zs128) : Calls Tryz.prog 202 #[.string S] w fun e w' => e = .returned (.tuple #[Rt.none_.val, .int .i64 5]) ∧ Below w.heap.size w w' := by
  have hsz : S.size = 128 := by rw [hS.size, hl]
  have he := hS.yes (IsS.mk_ zs128 zs_dig) h
  clear h hS
  unfold Rt.val Rt.none_
  obtain ⟨i0, hi, hz0, hz1, hz2⟩ := info_parts Tryz.info5
  have HI := Lib.hid hi
  have HZ0 := Lib.hid hz0
  have HZ1 := Lib.hid hz1
  have HZ2 := Lib.hid hz2
  clear hi hz0 hz1 hz2
  go_enter Tryz.func202, Tryz.ntmps202
  go_wp2_with (refine wpList_make_full _ rfl _ _ 71 rfl 0 5 i0 (.int .u8 0) 1 Tryz.underlying71 HI.out HZ0.out HZ1.out .i64 .i64 128 128 128 rfl rfl rfl rfl (by rw [HZ2.out]; omega) (by unfold maxLen; omega) (Nat.zero_le _) ?_)
  intro w2 hown hgrow
  have HBX : Hid (RtAt w2 w.heap.size 93 Rt.none_) := Lib.hid ((RtAt.new w Rt.none_ 93).below ((Below.refl _ _).grown hgrow (Nat.le_refl _) (fun k e => by cases e)))
  have HB2 : Hid (Below w.heap.size w w2) := Lib.hid (((Below.refl _ _).alloc (Nat.le_refl _) _).grown hgrow (by simp) (fun k e => by cases e))
  have hcv := zeros_conv hown
  clear hown hgrow HI HZ0 HZ1 HZ2
  generalize strB zs128 = Z at *
  have b0 := HBX.out.c0
  have b1 := HBX.out.c1
  have b2 := HBX.out.c2
  have b3 := HBX.out.c3
  have bf := HBX.out.fz
  go_wp2_with fail
  exact bodyPost_ret (v := .tuple #[.agg #[.int .i64 0, .int .i64 0, .int .i64 0, .int .i64 0], .int .i64 5]) (by simp [results, Tryz.results202, go_sem, b0, b1, b2, b3]) rfl ⟨rfl, (((HB2.out.setCell (Nat.le_refl _) _).setCell (Nat.le_refl _) _).setCell (Nat.le_refl _) _).setCell (Nat.le_refl _) _⟩
set_option maxHeartbeats 800000 in
theorem decode_torn (hS : IsS S s) (hl : s.length = 128) (h : s ≠ zs128) (h8 : s.take 8 ≠ s.drop 120) : Calls Tryz.prog 202 #[.string S] w fun e w' => e = .returned (.tuple #[Rt.none_.val, .int .i64 4]) ∧ Below w.heap.size w w' := by
  have hsz : S.size = 128 := by rw [hS.size, hl]
  have he := hS.no (IsS.mk_ zs128 zs_dig) h
  have e1 := hS.ext 0 8
  have e2 := hS.ext 120 128
  rw [List.drop_zero, Nat.sub_zero] at e1
  rw [List.take_of_length_le (by rw [List.length_drop]; omega)] at e2
  have hd := e1.no e2 h8
  clear h hS h8 e1 e2
  unfold Rt.val Rt.none_
  obtain ⟨i0, hi, hz0, hz1, hz2⟩ := info_parts Tryz.info5
  have HI := Lib.hid hi
  have HZ0 := Lib.hid hz0
  have HZ1 := Lib.hid hz1
  have HZ2 := Lib.hid hz2
  clear hi hz0 hz1 hz2
  go_enter Tryz.func202, Tryz.ntmps202
  go_wp2_with (refine wpList_make_full _ rfl _ _ 71 rfl 0 5 i0 (.int .u8 0) 1 Tryz.underlying71 HI.out HZ0.out HZ1.out .i64 .i64 128 128 128 rfl rfl rfl rfl (by rw [HZ2.out]; omega) (by unfold maxLen; omega) (Nat.zero_le _) ?_)
  intro w2 hown hgrow
  have HBX : Hid (RtAt w2 w.heap.size 93 Rt.none_) := Lib.hid ((RtAt.new w Rt.none_ 93).below ((Below.refl _ _).grown hgrow (Nat.le_refl _) (fun k e => by cases e)))
  have HB2 : Hid (Below w.heap.size w w2) := Lib.hid (((Below.refl _ _).alloc (Nat.le_refl _) _).grown hgrow (by simp) (fun k e => by cases e))
  have hcv := zeros_conv hown
  clear hown hgrow HI HZ0 HZ1 HZ2
  generalize strB zs128 = Z at *
  have b0 := HBX.out.c0
  have b1 := HBX.out.c1
  have b2 := HBX.out.c2
  have b3 := HBX.out.c3
  have bf := HBX.out.fz
  go_wp2_with fail
  go_quiet (fail)
  clear b0 b1 b2 b3 bf
  have hbq : Below w2.heap.size w2 (w2.drewN nq) := below_drewN (Below.refl _ _) nq
  have HBX3 := Lib.hid (HBX.out.below hbq)
  have HB3 := Lib.hid (HB2.out.trans (Below.mono hbq HB2.out.size))
  clear hbq HBX HB2 hcv
  generalize w2.drewN nq = w3 at *
  have b0 := HBX3.out.c0
  have b1 := HBX3.out.c1
  have b2 := HBX3.out.c2
  have b3 := HBX3.out.c3
  have bf := HBX3.out.fz
  go_wp2_with fail
  exact bodyPost_ret (v := .tuple #[.agg #[.int .i64 0, .int .i64 0, .int .i64 0, .int .i64 0], .int .i64 4]) (by simp [results, Tryz.results202, go_sem, b0, b1, b2, b3]) rfl ⟨rfl, (((HB3.out.setCell (Nat.le_refl _) _).setCell (Nat.le_refl _) _).setCell (Nat.le_refl _) _).setCell (Nat.le_refl _) _⟩
set_option maxHeartbeats 800000 in
theorem decode_harm0 (hS : IsS S s) (hl : s.length = 128) (h : s ≠ zs128) (h8 : s.take 8 = s.drop 120) (hm : may (toldI s) = false) : Calls Tryz.prog 202 #[.string S] w fun e w' => e = .returned (.tuple #[Rt.none_.val, .int .i64 13]) ∧ Below w.heap.size w w' := by
  have HS := Lib.hid hS
  have hsz : S.size = 128 := by rw [hS.size, hl]
  have he := hS.no (IsS.mk_ zs128 zs_dig) h
  have e1 := hS.ext 0 8
  have e2 := hS.ext 120 128
  rw [List.drop_zero, Nat.sub_zero] at e1
  rw [List.take_of_length_le (by rw [List.length_drop]; omega)] at e2
  have hd := e1.yes e2 h8
  have HT := Lib.hid (fun w => told_any S s w HS.out hl)
  generalize toldI s = r at *
  obtain ⟨ep, pg, dr, wd⟩ := r
  clear h hS h8 e1 e2
  unfold Rt.val at *
  try unfold Rt.none_
  obtain ⟨i0, hi, hz0, hz1, hz2⟩ := info_parts Tryz.info5
  have HI := Lib.hid hi
  have HZ0 := Lib.hid hz0
  have HZ1 := Lib.hid hz1
  have HZ2 := Lib.hid hz2
  clear hi hz0 hz1 hz2
  go_enter Tryz.func202, Tryz.ntmps202
  go_wp2_with (refine wpList_make_full _ rfl _ _ 71 rfl 0 5 i0 (.int .u8 0) 1 Tryz.underlying71 HI.out HZ0.out HZ1.out .i64 .i64 128 128 128 rfl rfl rfl rfl (by rw [HZ2.out]; omega) (by unfold maxLen; omega) (Nat.zero_le _) ?_)
  intro w2 hown hgrow
  have HBX : Hid (RtAt w2 w.heap.size 93 Rt.none_) := Lib.hid ((RtAt.new w Rt.none_ 93).below ((Below.refl _ _).grown hgrow (Nat.le_refl _) (fun k e => by cases e)))
  have HB2 : Hid (Below w.heap.size w w2) := Lib.hid (((Below.refl _ _).alloc (Nat.le_refl _) _).grown hgrow (by simp) (fun k e => by cases e))
  have hcv := zeros_conv hown
  clear hown hgrow HI HZ0 HZ1 HZ2
  generalize strB zs128 = Z at *
  have b0 := HBX.out.c0
  have b1 := HBX.out.c1
  have b2 := HBX.out.c2
  have b3 := HBX.out.c3
  have bf := HBX.out.fz
  go_wp2_with fail
  go_quiet (fail)
  clear b0 b1 b2 b3 bf
  have hbq : Below w2.heap.size w2 (w2.drewN nq) := below_drewN (Below.refl _ _) nq
  have HBX3 := Lib.hid (HBX.out.below hbq)
  have HB3 := Lib.hid (HB2.out.trans (Below.mono hbq HB2.out.size))
  clear hbq HBX HB2 hcv he hd
  generalize w2.drewN nq = w3 at *
  go_wp2_with fail
  refine (HT.out _).mono ?_
  rintro e w4 ⟨rfl, hb4⟩
  have HBX4 := Lib.hid (HBX3.out.below hb4)
  have HB4 := Lib.hid (HB3.out.trans (Below.mono hb4 HB3.out.size))
  clear hb4 HBX3 HB3 HT
  go_wp2_with fail
  have HR5 := Lib.hid (RtAt.new w4 ⟨ep, pg, dr, wd⟩ 93)
  have hb5 : Below w4.heap.size w4 (w4.alloc (.cells #[.int .i64 ep, .int .i64 pg, .int .i64 dr, .int .i64 wd] 93)) := (Below.refl _ _).alloc (Nat.le_refl _) _
  have HBX5 := Lib.hid (HBX4.out.below hb5)
  have HB5 := Lib.hid (HB4.out.trans (Below.mono hb5 HB4.out.size))
  have hne : w.heap.size ≠ w4.heap.size := by have := HBX4.out.lt; omega
  clear hb5 HBX4 HB4
  refine (encode_no ⟨ep, pg, dr, wd⟩ _ hm).mono ?_
  rintro e w6 ⟨rfl, hb6⟩
  have HR6 := Lib.hid (HR5.out.below hb6)
  have HBX6 := Lib.hid (HBX5.out.below hb6)
  have HB6 := Lib.hid (HB5.out.trans (Below.mono hb6 HB5.out.size))
  clear hb6 HR5 HBX5 HB5
  have b0 := HBX6.out.c0
  have b1 := HBX6.out.c1
  have b2 := HBX6.out.c2
  have b3 := HBX6.out.c3
  have bf := HBX6.out.fz
  have r0 := HR6.out.c0
  have r1 := HR6.out.c1
  have r2 := HR6.out.c2
  have r3 := HR6.out.c3
  generalize w4.heap.size = q at *
  go_wp2_with fail
  exact bodyPost_ret (v := .tuple #[.agg #[.int .i64 0, .int .i64 0, .int .i64 0, .int .i64 0], .int .i64 13]) (by simp [results, Tryz.results202, go_sem, b0, b1, b2, b3]) rfl ⟨rfl, (((HB6.out.setCell (Nat.le_refl _) _).setCell (Nat.le_refl _) _).setCell (Nat.le_refl _) _).setCell (Nat.le_refl _) _⟩
set_option maxHeartbeats 800000 in
theorem decode_harm1 (hS : IsS S s) (hl : s.length = 128) (h : s ≠ zs128) (h8 : s.take 8 = s.drop 120) (hm : may (toldI s) = true) (hb : block (toldI s) ≠ s) : Calls Tryz.prog 202 #[.string S] w fun e w' => e = .returned (.tuple #[Rt.none_.val, .int .i64 13]) ∧ Below w.heap.size w w' := by
  have HS := Lib.hid hS
  have hsz : S.size = 128 := by rw [hS.size, hl]
  have he := hS.no (IsS.mk_ zs128 zs_dig) h
  have e1 := hS.ext 0 8
  have e2 := hS.ext 120 128
  rw [List.drop_zero, Nat.sub_zero] at e1
  rw [List.take_of_length_le (by rw [List.length_drop]; omega)] at e2
  have hd := e1.yes e2 h8
  have hq := (IsS.mk_ (block (toldI s)) (block_dig _)).no hS hb
  have HT := Lib.hid (fun w => told_any S s w HS.out hl)
  generalize toldI s = r at *
  obtain ⟨ep, pg, dr, wd⟩ := r
  clear h hS h8 e1 e2
  unfold Rt.val at *
  try unfold Rt.none_
  obtain ⟨i0, hi, hz0, hz1, hz2⟩ := info_parts Tryz.info5
  have HI := Lib.hid hi
  have HZ0 := Lib.hid hz0
  have HZ1 := Lib.hid hz1
  have HZ2 := Lib.hid hz2
  clear hi hz0 hz1 hz2
  go_enter Tryz.func202, Tryz.ntmps202
  go_wp2_with (refine wpList_make_full _ rfl _ _ 71 rfl 0 5 i0 (.int .u8 0) 1 Tryz.underlying71 HI.out HZ0.out HZ1.out .i64 .i64 128 128 128 rfl rfl rfl rfl (by rw [HZ2.out]; omega) (by unfold maxLen; omega) (Nat.zero_le _) ?_)
  intro w2 hown hgrow
  have HBX : Hid (RtAt w2 w.heap.size 93 Rt.none_) := Lib.hid ((RtAt.new w Rt.none_ 93).below ((Below.refl _ _).grown hgrow (Nat.le_refl _) (fun k e => by cases e)))
  have HB2 : Hid (Below w.heap.size w w2) := Lib.hid (((Below.refl _ _).alloc (Nat.le_refl _) _).grown hgrow (by simp) (fun k e => by cases e))
  have hcv := zeros_conv hown
  clear hown hgrow HI HZ0 HZ1 HZ2
  generalize strB zs128 = Z at *
  have b0 := HBX.out.c0
  have b1 := HBX.out.c1
  have b2 := HBX.out.c2
  have b3 := HBX.out.c3
  have bf := HBX.out.fz
  go_wp2_with fail
  go_quiet (fail)
  clear b0 b1 b2 b3 bf
  have hbq : Below w2.heap.size w2 (w2.drewN nq) := below_drewN (Below.refl _ _) nq
  have HBX3 := Lib.hid (HBX.out.below hbq)
  have HB3 := Lib.hid (HB2.out.trans (Below.mono hbq HB2.out.size))
  clear hbq HBX HB2 hcv he hd
  generalize w2.drewN nq = w3 at *
  go_wp2_with fail
  refine (HT.out _).mono ?_
  rintro e w4 ⟨rfl, hb4⟩
  have HBX4 := Lib.hid (HBX3.out.below hb4)
  have HB4 := Lib.hid (HB3.out.trans (Below.mono hb4 HB3.out.size))
  clear hb4 HBX3 HB3 HT
  go_wp2_with fail
  have HR5 := Lib.hid (RtAt.new w4 ⟨ep, pg, dr, wd⟩ 93)
  have hb5 : Below w4.heap.size w4 (w4.alloc (.cells #[.int .i64 ep, .int .i64 pg, .int .i64 dr, .int .i64 wd] 93)) := (Below.refl _ _).alloc (Nat.le_refl _) _
  have HBX5 := Lib.hid (HBX4.out.below hb5)
  have HB5 := Lib.hid (HB4.out.trans (Below.mono hb5 HB4.out.size))
  have hne : w.heap.size ≠ w4.heap.size := by have := HBX4.out.lt; omega
  clear hb5 HBX4 HB4
  refine (encode_yes ⟨ep, pg, dr, wd⟩ _ (may_yes hm)).mono ?_
  rintro e w6 ⟨rfl, hb6⟩
  have HR6 := Lib.hid (HR5.out.below hb6)
  have HBX6 := Lib.hid (HBX5.out.below hb6)
  have HB6 := Lib.hid (HB5.out.trans (Below.mono hb6 HB5.out.size))
  clear hb6 HR5 HBX5 HB5
  have b0 := HBX6.out.c0
  have b1 := HBX6.out.c1
  have b2 := HBX6.out.c2
  have b3 := HBX6.out.c3
  have bf := HBX6.out.fz
  have r0 := HR6.out.c0
  have r1 := HR6.out.c1
  have r2 := HR6.out.c2
  have r3 := HR6.out.c3
  generalize w4.heap.size = q at *
  clear hm hb
  generalize strB (block _) = B at *
  go_wp2_with fail
  exact bodyPost_ret (v := .tuple #[.agg #[.int .i64 0, .int .i64 0, .int .i64 0, .int .i64 0], .int .i64 13]) (by simp [results, Tryz.results202, go_sem, b0, b1, b2, b3]) rfl ⟨rfl, (((HB6.out.setCell (Nat.le_refl _) _).setCell (Nat.le_refl _) _).setCell (Nat.le_refl _) _).setCell (Nat.le_refl _) _⟩
set_option maxHeartbeats 800000 in
theorem decode_good (hS : IsS S s) (hl : s.length = 128) (h : s ≠ zs128) (h8 : s.take 8 = s.drop 120) (hm : may (toldI s) = true) (hb : block (toldI s) = s) : Calls Tryz.prog 202 #[.string S] w fun e w' => e = .returned (.tuple #[(toldI s).val, .int .i64 0]) ∧ Below w.heap.size w w' := by
  have HS := Lib.hid hS
  have hsz : S.size = 128 := by rw [hS.size, hl]
  have he := hS.no (IsS.mk_ zs128 zs_dig) h
  have e1 := hS.ext 0 8
  have e2 := hS.ext 120 128
  rw [List.drop_zero, Nat.sub_zero] at e1
  rw [List.take_of_length_le (by rw [List.length_drop]; omega)] at e2
  have hd := e1.yes e2 h8
  have hq := (IsS.mk_ (block (toldI s)) (block_dig _)).yes hS hb
  have HT := Lib.hid (fun w => told_any S s w HS.out hl)
  generalize toldI s = r at *
  obtain ⟨ep, pg, dr, wd⟩ := r
  clear h hS h8 e1 e2
  unfold Rt.val at *
  try unfold Rt.none_
  obtain ⟨i0, hi, hz0, hz1, hz2⟩ := info_parts Tryz.info5
  have HI := Lib.hid hi
  have HZ0 := Lib.hid hz0
  have HZ1 := Lib.hid hz1
  have HZ2 := Lib.hid hz2
  clear hi hz0 hz1 hz2
  go_enter Tryz.func202, Tryz.ntmps202
  go_wp2_with (refine wpList_make_full _ rfl _ _ 71 rfl 0 5 i0 (.int .u8 0) 1 Tryz.underlying71 HI.out HZ0.out HZ1.out .i64 .i64 128 128 128 rfl rfl rfl rfl (by rw [HZ2.out]; omega) (by unfold maxLen; omega) (Nat.zero_le _) ?_)
  intro w2 hown hgrow
  have HBX : Hid (RtAt w2 w.heap.size 93 Rt.none_) := Lib.hid ((RtAt.new w Rt.none_ 93).below ((Below.refl _ _).grown hgrow (Nat.le_refl _) (fun k e => by cases e)))
  have HB2 : Hid (Below w.heap.size w w2) := Lib.hid (((Below.refl _ _).alloc (Nat.le_refl _) _).grown hgrow (by simp) (fun k e => by cases e))
  have hcv := zeros_conv hown
  clear hown hgrow HI HZ0 HZ1 HZ2
  generalize strB zs128 = Z at *
  have b0 := HBX.out.c0
  have b1 := HBX.out.c1
  have b2 := HBX.out.c2
  have b3 := HBX.out.c3
  have bf := HBX.out.fz
  go_wp2_with fail
  go_quiet (fail)
  clear b0 b1 b2 b3 bf
  have hbq : Below w2.heap.size w2 (w2.drewN nq) := below_drewN (Below.refl _ _) nq
  have HBX3 := Lib.hid (HBX.out.below hbq)
  have HB3 := Lib.hid (HB2.out.trans (Below.mono hbq HB2.out.size))
  clear hbq HBX HB2 hcv he hd
  generalize w2.drewN nq = w3 at *
  go_wp2_with fail
  refine (HT.out _).mono ?_
  rintro e w4 ⟨rfl, hb4⟩
  have HBX4 := Lib.hid (HBX3.out.below hb4)
  have HB4 := Lib.hid (HB3.out.trans (Below.mono hb4 HB3.out.size))
  clear hb4 HBX3 HB3 HT
  go_wp2_with fail
  have HR5 := Lib.hid (RtAt.new w4 ⟨ep, pg, dr, wd⟩ 93)
  have hb5 : Below w4.heap.size w4 (w4.alloc (.cells #[.int .i64 ep, .int .i64 pg, .int .i64 dr, .int .i64 wd] 93)) := (Below.refl _ _).alloc (Nat.le_refl _) _
  have HBX5 := Lib.hid (HBX4.out.below hb5)
  have HB5 := Lib.hid (HB4.out.trans (Below.mono hb5 HB4.out.size))
  have hne : w.heap.size ≠ w4.heap.size := by have := HBX4.out.lt; omega
  clear hb5 HBX4 HB4
  refine (encode_yes ⟨ep, pg, dr, wd⟩ _ (may_yes hm)).mono ?_
  rintro e w6 ⟨rfl, hb6⟩
  have HR6 := Lib.hid (HR5.out.below hb6)
  have HBX6 := Lib.hid (HBX5.out.below hb6)
  have HB6 := Lib.hid (HB5.out.trans (Below.mono hb6 HB5.out.size))
  clear hb6 HR5 HBX5 HB5
  have b0 := HBX6.out.c0
  have b1 := HBX6.out.c1
  have b2 := HBX6.out.c2
  have b3 := HBX6.out.c3
  have bf := HBX6.out.fz
  have r0 := HR6.out.c0
  have r1 := HR6.out.c1
  have r2 := HR6.out.c2
  have r3 := HR6.out.c3
  generalize w4.heap.size = q at *
  clear hm hb
  generalize strB (block _) = B at *
  go_wp2_with fail
  exact bodyPost_ret (v := .tuple #[.agg #[.int .i64 ep, .int .i64 pg, .int .i64 dr, .int .i64 wd], .int .i64 0]) (by simp [results, Tryz.results202, go_sem, b0, b1, b2, b3]) rfl ⟨rfl, (((HB6.out.setCell (Nat.le_refl _) _).setCell (Nat.le_refl _) _).setCell (Nat.le_refl _) _).setCell (Nat.le_refl _) _⟩
/-- Decode, for any string. -/
theorem decode_any (hS : IsS S s) : Calls Tryz.prog 202 #[.string S] w fun e w' => e = .returned (.tuple #[(decR s).val, .int .i64 (decE s)]) ∧ Below w.heap.size w w' := by
  by_cases hl : s.length = 128
  · by_cases hz : s = zs128
    · have hE : decE s = 5 := by unfold decE; rw [if_neg (by simp [hl]), if_pos hz]
      rw [hE, decR_no (by rw [hE]; omega)]
      exact decode_zeros S s w hS hl hz
    · by_cases h8 : s.take 8 = s.drop 120
      · obtain ⟨h1, h2, h3⟩ := dec_other hl hz h8 (toldI_or s hS.dig)
        by_cases hm : may (toldI s) = true
        · by_cases hb : block (toldI s) = s
          · obtain ⟨h4, h5⟩ := h3 hm hb
            rw [h4, h5]
            exact decode_good S s w hS hl hz h8 hm hb
          · have hE := h2 hm hb
            rw [hE, decR_no (by rw [hE]; omega)]
            exact decode_harm1 S s w hS hl hz h8 hm hb
        · have hm0 : may (toldI s) = false := by simpa using hm
          have hE := h1 hm0
          rw [hE, decR_no (by rw [hE]; omega)]
          exact decode_harm0 S s w hS hl hz h8 hm0
      · have hE : decE s = 4 := by unfold decE; rw [if_neg (by simp [hl]), if_neg hz, if_pos h8]
        rw [hE, decR_no (by rw [hE]; omega)]
        exact decode_torn S s w hS hl hz h8
  · have hE : decE s = 1 := by unfold decE; rw [if_pos hl]
    rw [hE, decR_no (by rw [hE]; omega)]
    exact decode_len S s w hS hl
end
end Go.Proofs.YtmbecjlioogbhaaGreatDoor
end
section
/-! Blocks at their places, and what a disk without a root is. -/
set_option maxRecDepth 20000
namespace Go.Proofs.YtmbecjlioogbhaaGreatDoor
open Go.RowKit

set_option maxHeartbeats 400000 in
theorem wo_55 (w : World) : Calls Tryz.prog 165 #[.int .i64 5, .int .i64 5] w fun x w' => x = .returned (.int .i64 5) ∧ w = w' := by
  go_enter Tryz.func165, Tryz.ntmps165
  go_wp2_with fail
  go_ret
  exact ⟨rfl, rfl⟩
set_option maxHeartbeats 400000 in
theorem wo_54 (w : World) : Calls Tryz.prog 165 #[.int .i64 5, .int .i64 4] w fun x w' => x = .returned (.int .i64 5) ∧ w = w' := by
  go_enter Tryz.func165, Tryz.ntmps165
  go_wp2_with fail
  go_ret
  exact ⟨rfl, rfl⟩
set_option maxHeartbeats 400000 in
theorem wo_5o (f : Int) (w : World) (kf5 : (f == 5) = false) (kf4 : (f == 4) = false) : Calls Tryz.prog 165 #[.int .i64 5, .int .i64 f] w fun x w' => x = .returned (.int .i64 13) ∧ w = w' := by
  go_enter Tryz.func165, Tryz.ntmps165
  go_wp2_with fail
  go_ret
  exact ⟨rfl, rfl⟩
set_option maxHeartbeats 400000 in
theorem wo_45 (w : World) : Calls Tryz.prog 165 #[.int .i64 4, .int .i64 5] w fun x w' => x = .returned (.int .i64 5) ∧ w = w' := by
  go_enter Tryz.func165, Tryz.ntmps165
  go_wp2_with fail
  go_ret
  exact ⟨rfl, rfl⟩
set_option maxHeartbeats 400000 in
theorem wo_44 (w : World) : Calls Tryz.prog 165 #[.int .i64 4, .int .i64 4] w fun x w' => x = .returned (.int .i64 13) ∧ w = w' := by
  go_enter Tryz.func165, Tryz.ntmps165
  go_wp2_with fail
  go_ret
  exact ⟨rfl, rfl⟩
set_option maxHeartbeats 400000 in
theorem wo_4o (f : Int) (w : World) (kf5 : (f == 5) = false) (_kf4 : (f == 4) = false) : Calls Tryz.prog 165 #[.int .i64 4, .int .i64 f] w fun x w' => x = .returned (.int .i64 13) ∧ w = w' := by
  go_enter Tryz.func165, Tryz.ntmps165
  go_wp2_with fail
  go_ret
  exact ⟨rfl, rfl⟩
set_option maxHeartbeats 400000 in
theorem wo_o5 (e : Int) (w : World) (ke5 : (e == 5) = false) (ke4 : (e == 4) = false) : Calls Tryz.prog 165 #[.int .i64 e, .int .i64 5] w fun x w' => x = .returned (.int .i64 13) ∧ w = w' := by
  go_enter Tryz.func165, Tryz.ntmps165
  go_wp2_with fail
  go_ret
  exact ⟨rfl, rfl⟩
set_option maxHeartbeats 400000 in
theorem wo_o4 (e : Int) (w : World) (ke5 : (e == 5) = false) (ke4 : (e == 4) = false) : Calls Tryz.prog 165 #[.int .i64 e, .int .i64 4] w fun x w' => x = .returned (.int .i64 13) ∧ w = w' := by
  go_enter Tryz.func165, Tryz.ntmps165
  go_wp2_with fail
  go_ret
  exact ⟨rfl, rfl⟩
set_option maxHeartbeats 400000 in
theorem wo_oo (e : Int) (f : Int) (w : World) (ke5 : (e == 5) = false) (ke4 : (e == 4) = false) (_kf5 : (f == 5) = false) (_kf4 : (f == 4) = false) : Calls Tryz.prog 165 #[.int .i64 e, .int .i64 f] w fun x w' => x = .returned (.int .i64 13) ∧ w = w' := by
  go_enter Tryz.func165, Tryz.ntmps165
  go_wp2_with fail
  go_ret
  exact ⟨rfl, rfl⟩
theorem without_any (e f : Int) (w : World) : Calls Tryz.prog 165 #[.int .i64 e, .int .i64 f] w fun x w' => x = .returned (.int .i64 (withE e f)) ∧ w = w' := by
  by_cases he5 : e = 5
  · by_cases hf5 : f = 5
    · have HE : Hid (withE e f = 5) := Lib.hid (by unfold withE; simp [he5, hf5])
      rw [HE.out]
      clear HE
      subst he5
      subst hf5
      exact wo_55 w
    · by_cases hf4 : f = 4
      · have HE : Hid (withE e f = 5) := Lib.hid (by unfold withE; simp [he5, hf4])
        rw [HE.out]
        clear HE
        subst he5
        subst hf4
        exact wo_54 w
      · have HE : Hid (withE e f = 13) := Lib.hid (by unfold withE; simp [he5, hf5, hf4])
        rw [HE.out]
        clear HE
        subst he5
        have kf5 : (f == 5) = false := by rw [beq_eq_false_iff_ne]; exact hf5
        have kf4 : (f == 4) = false := by rw [beq_eq_false_iff_ne]; exact hf4
        exact wo_5o f w kf5 kf4
  · by_cases he4 : e = 4
    · by_cases hf5 : f = 5
      · have HE : Hid (withE e f = 5) := Lib.hid (by unfold withE; simp [he4, hf5])
        rw [HE.out]
        clear HE
        subst he4
        subst hf5
        exact wo_45 w
      · by_cases hf4 : f = 4
        · have HE : Hid (withE e f = 13) := Lib.hid (by unfold withE; simp [he4, hf4])
          rw [HE.out]
          clear HE
          subst he4
          subst hf4
          exact wo_44 w
        · have HE : Hid (withE e f = 13) := Lib.hid (by unfold withE; simp [he4, hf5, hf4])
          rw [HE.out]
          clear HE
          subst he4
          have kf5 : (f == 5) = false := by rw [beq_eq_false_iff_ne]; exact hf5
          have kf4 : (f == 4) = false := by rw [beq_eq_false_iff_ne]; exact hf4
          exact wo_4o f w kf5 kf4
    · by_cases hf5 : f = 5
      · have HE : Hid (withE e f = 13) := Lib.hid (by unfold withE; simp [he5, he4, hf5])
        rw [HE.out]
        clear HE
        have ke5 : (e == 5) = false := by rw [beq_eq_false_iff_ne]; exact he5
        have ke4 : (e == 4) = false := by rw [beq_eq_false_iff_ne]; exact he4
        subst hf5
        exact wo_o5 e w ke5 ke4
      · by_cases hf4 : f = 4
        · have HE : Hid (withE e f = 13) := Lib.hid (by unfold withE; simp [he5, he4, hf4])
          rw [HE.out]
          clear HE
          have ke5 : (e == 5) = false := by rw [beq_eq_false_iff_ne]; exact he5
          have ke4 : (e == 4) = false := by rw [beq_eq_false_iff_ne]; exact he4
          subst hf4
          exact wo_o4 e w ke5 ke4
        · have HE : Hid (withE e f = 13) := Lib.hid (by unfold withE; simp [he5, he4, hf5, hf4])
          rw [HE.out]
          clear HE
          have ke5 : (e == 5) = false := by rw [beq_eq_false_iff_ne]; exact he5
          have ke4 : (e == 4) = false := by rw [beq_eq_false_iff_ne]; exact he4
          have kf5 : (f == 5) = false := by rw [beq_eq_false_iff_ne]; exact hf5
          have kf4 : (f == 4) = false := by rw [beq_eq_false_iff_ne]; exact hf4
          exact wo_oo e f w ke5 ke4 kf5 kf4
set_option maxHeartbeats 800000 in
theorem placed_any (S : ByteArray) (s : List Nat) (k : Int) (w : World) (hS : IsS S s) :
    Calls Tryz.prog 164 #[.string S, .int .i64 k] w fun e w' => e = .returned (.tuple #[(plR s k).val, .int .i64 (plE s k)]) ∧ Below w.heap.size w w' := by
  have HD := Lib.hid (fun w => decode_any S s w hS)
  have HPR : Hid (plR s k = if decE s = 0 ∧ place (decR s).ep ≠ k then Rt.none_ else decR s) := Lib.hid rfl
  have HPE : Hid (plE s k = if decE s = 0 ∧ place (decR s).ep ≠ k then 13 else decE s) := Lib.hid rfl
  rw [HPR.out, HPE.out]
  clear hS HPR HPE
  generalize decR s = r at *
  generalize decE s = E at *
  have HPL := Lib.hid (fun w => place_any r.ep w)
  obtain ⟨XR, hXR⟩ : ∃ XR, (if E = 0 ∧ place r.ep ≠ k then Rt.none_ else r) = XR := ⟨_, rfl⟩
  obtain ⟨XE, hXE⟩ : ∃ XE : Int, (if E = 0 ∧ place r.ep ≠ k then 13 else E) = XE := ⟨_, rfl⟩
  rw [hXR, hXE]
  generalize hP : place r.ep = P at *
  clear hP
  unfold Rt.val at *
  have HXR := Lib.hid hXR
  have HXE := Lib.hid hXE
  clear hXR hXE
  go_enter Tryz.func164, Tryz.ntmps164
  go_wp2_with fail
  have HBX : Hid (RtAt (w.alloc (.cells #[.int .i64 0, .int .i64 0, .int .i64 0, .int .i64 0] 93)) w.heap.size 93 Rt.none_) := Lib.hid (RtAt.new w Rt.none_ 93)
  have HB2 : Hid (Below w.heap.size w (w.alloc (.cells #[.int .i64 0, .int .i64 0, .int .i64 0, .int .i64 0] 93))) := Lib.hid ((Below.refl _ _).alloc (Nat.le_refl _) _)
  refine (HD.out _).mono ?_
  rintro e w3 ⟨rfl, hb⟩
  have HBX3 := Lib.hid (HBX.out.below hb)
  have HB3 := Lib.hid (HB2.out.trans (Below.mono hb (by simp)))
  clear hb HBX HB2 HD
  have hb4 : Below w3.heap.size w3 (w3.alloc (.cells #[.int .i64 r.ep, .int .i64 r.pg, .int .i64 r.dr, .int .i64 r.wd] 93)) := (Below.refl _ _).alloc (Nat.le_refl _) _
  have HR4 := Lib.hid (RtAt.new w3 r 93)
  have HBX4 := Lib.hid (HBX3.out.below hb4)
  have HB4 := Lib.hid (HB3.out.trans (Below.mono hb4 HB3.out.size))
  have hne : w.heap.size ≠ w3.heap.size := by have := HBX3.out.lt; omega
  clear hb4 HBX3 HB3
  go_upto_region 2 with fail
  generalize w3.alloc (.cells #[.int .i64 r.ep, .int .i64 r.pg, .int .i64 r.dr, .int .i64 r.wd] 93) = w4 at *
  generalize w3.heap.size = q at *
  have b0 := HBX4.out.c0
  have b1 := HBX4.out.c1
  have b2 := HBX4.out.c2
  have b3 := HBX4.out.c3
  have bf := HBX4.out.fz
  have r0 := HR4.out.c0
  have r1 := HR4.out.c1
  have r2 := HR4.out.c2
  have r3 := HR4.out.c3
  by_cases hE : E = 0
  · subst hE
    by_cases hP : P = k
    · have hd : (P != k) = false := by simp [hP]
      have hxe : XE = 0 := by rw [← HXE.out, if_neg (fun h => h.2 hP)]
      have hxr : XR = r := by rw [← HXR.out, if_neg (fun h => h.2 hP)]
      subst hxe hxr
      clear hP HXE HXR
      go_wp2_with (go_at_call 187; refine (HPL.out _).mono ?_; rintro e w7 ⟨rfl, rfl⟩)
      exact bodyPost_ret (v := .tuple #[.agg #[.int .i64 XR.ep, .int .i64 XR.pg, .int .i64 XR.dr, .int .i64 XR.wd], .int .i64 0]) (by simp [results, Tryz.results164, go_sem, b0, b1, b2, b3]) rfl ⟨rfl, (((HB4.out.setCell (Nat.le_refl _) _).setCell (Nat.le_refl _) _).setCell (Nat.le_refl _) _).setCell (Nat.le_refl _) _⟩
    · have hd : (P != k) = true := by simp [hP]
      have hxe : XE = 13 := by rw [← HXE.out, if_pos ⟨rfl, hP⟩]
      have hxr : XR = Rt.none_ := by rw [← HXR.out, if_pos ⟨rfl, hP⟩]
      subst hxe hxr
      clear hP HXE HXR
      go_wp2_with (go_at_call 187; refine (HPL.out _).mono ?_; rintro e w7 ⟨rfl, rfl⟩)
      exact bodyPost_ret (v := .tuple #[.agg #[.int .i64 0, .int .i64 0, .int .i64 0, .int .i64 0], .int .i64 13]) (by simp [results, Tryz.results164, go_sem, b0, b1, b2, b3]) rfl ⟨rfl, (((HB4.out.setCell (Nat.le_refl _) _).setCell (Nat.le_refl _) _).setCell (Nat.le_refl _) _).setCell (Nat.le_refl _) _⟩
  · have hd : (E == 0) = false := by simp [hE]
    have hxe : XE = E := by rw [← HXE.out, if_neg (fun h => hE h.1)]
    have hxr : XR = r := by rw [← HXR.out, if_neg (fun h => hE h.1)]
    subst hxe hxr
    clear hE HXE HXR
    go_wp2_with fail
    exact bodyPost_ret (v := .tuple #[.agg #[.int .i64 XR.ep, .int .i64 XR.pg, .int .i64 XR.dr, .int .i64 XR.wd], .int .i64 XE]) (by simp [results, Tryz.results164, go_sem, b0, b1, b2, b3]) rfl ⟨rfl, (((HB4.out.setCell (Nat.le_refl _) _).setCell (Nat.le_refl _) _).setCell (Nat.le_refl _) _).setCell (Nat.le_refl _) _⟩
end Go.Proofs.YtmbecjlioogbhaaGreatDoor
end
section
/-! What the code's Newest returns. -/
set_option maxRecDepth 20000
namespace Go.Proofs.YtmbecjlioogbhaaGreatDoor
open Go.RowKit

/-- A root is stored into a box. -/
def set4 (w : World) (q : Nat) (r : Rt) : World := (((w.setCell ⟨q, 0, none⟩ (.int .i64 r.ep)).setCell ⟨q, 1, none⟩ (.int .i64 r.pg)).setCell ⟨q, 2, none⟩ (.int .i64 r.dr)).setCell ⟨q, 3, none⟩ (.int .i64 r.wd)
theorem RtAt.set4 {w : World} {q t : Nat} {r0 : Rt} (h : RtAt w q t r0) (r : Rt) : RtAt (set4 w q r) q t r := by
  have h1 := heap_setCell_same w q 0 _ _ (.int .i64 r.ep) h
  have h2 := heap_setCell_same _ q 1 _ _ (.int .i64 r.pg) h1
  have h3 := heap_setCell_same _ q 2 _ _ (.int .i64 r.dr) h2
  exact heap_setCell_same _ q 3 _ _ (.int .i64 r.wd) h3
theorem RtAt.set4_other {w : World} {b q t : Nat} {r0 : Rt} (h : RtAt w b t r0) (r : Rt) (hq : q ≠ b) : RtAt (Go.Proofs.YtmbecjlioogbhaaGreatDoor.set4 w q r) b t r0 := by
  refine (heap_setCell_other _ ⟨q, 3, none⟩ b _ (Ne.symm hq)).trans ?_
  refine (heap_setCell_other _ ⟨q, 2, none⟩ b _ (Ne.symm hq)).trans ?_
  refine (heap_setCell_other _ ⟨q, 1, none⟩ b _ (Ne.symm hq)).trans ?_
  exact (heap_setCell_other _ ⟨q, 0, none⟩ b _ (Ne.symm hq)).trans h
theorem below_set4 {B : Nat} {w0 w : World} (h : Below B w0 w) {q : Nat} (hq : B ≤ q) (r : Rt) : Below B w0 (set4 w q r) :=
  (((h.setCell hq _).setCell hq _).setCell hq _).setCell hq _
/-- Four boxes of a call, of type t. -/
structure NB (w wr : World) (t q7 q9 : Nat) (x y : Rt) : Prop where
  b4 : RtAt wr w.heap.size t Rt.none_
  b5 : RtAt wr (w.heap.size + 1) t Rt.none_
  b7 : RtAt wr q7 t x
  b9 : RtAt wr q9 t y
  below : Below w.heap.size w wr
  l7 : w.heap.size + 1 < q7
  l9 : q7 < q9
theorem NB.swap {w wr : World} {t q7 q9 : Nat} {x y : Rt} (h : NB w wr t q7 q9 x y) : NB w (set4 (set4 wr q7 y) q9 x) t q7 q9 y x := by
  have l7 := h.l7
  have l9 := h.l9
  exact ⟨(h.b4.set4_other _ (by omega)).set4_other _ (by omega), (h.b5.set4_other _ (by omega)).set4_other _ (by omega), (h.b7.set4 y).set4_other _ (by omega), (h.b9.set4_other _ (by omega)).set4 x, below_set4 (below_set4 h.below (by omega) _) (by omega) _, h.l7, h.l9⟩
theorem NB.drop9 {w wr : World} {t q7 q9 : Nat} {x y : Rt} (h : NB w wr t q7 q9 x y) (z : Rt) : NB w (set4 wr q9 z) t q7 q9 x z := by
  have l7 := h.l7
  have l9 := h.l9
  exact ⟨h.b4.set4_other _ (by omega), h.b5.set4_other _ (by omega), h.b7.set4_other _ (by omega), h.b9.set4 z, below_set4 h.below (by omega) _, h.l7, h.l9⟩
theorem NB.make {w w3 w5 : World} {t : Nat} {x y : Rt}
    (hb : Below ((w.alloc (.cells #[.int .i64 0, .int .i64 0, .int .i64 0, .int .i64 0] t)).alloc (.cells #[.int .i64 0, .int .i64 0, .int .i64 0, .int .i64 0] t)).heap.size ((w.alloc (.cells #[.int .i64 0, .int .i64 0, .int .i64 0, .int .i64 0] t)).alloc (.cells #[.int .i64 0, .int .i64 0, .int .i64 0, .int .i64 0] t)) w3)
    (hb2 : Below (w3.alloc (.cells #[.int .i64 x.ep, .int .i64 x.pg, .int .i64 x.dr, .int .i64 x.wd] t)).heap.size (w3.alloc (.cells #[.int .i64 x.ep, .int .i64 x.pg, .int .i64 x.dr, .int .i64 x.wd] t)) w5) :
    NB w (w5.alloc (.cells #[.int .i64 y.ep, .int .i64 y.pg, .int .i64 y.dr, .int .i64 y.wd] t)) t w3.heap.size w5.heap.size x y := by
  have h4 : RtAt ((w.alloc (.cells #[.int .i64 0, .int .i64 0, .int .i64 0, .int .i64 0] t)).alloc (.cells #[.int .i64 0, .int .i64 0, .int .i64 0, .int .i64 0] t)) w.heap.size t Rt.none_ := heap_alloc2_old w _ _
  have h5 : RtAt ((w.alloc (.cells #[.int .i64 0, .int .i64 0, .int .i64 0, .int .i64 0] t)).alloc (.cells #[.int .i64 0, .int .i64 0, .int .i64 0, .int .i64 0] t)) (w.heap.size + 1) t Rt.none_ := heap_alloc2_new w _ _
  have hB0 : Below w.heap.size w ((w.alloc (.cells #[.int .i64 0, .int .i64 0, .int .i64 0, .int .i64 0] t)).alloc (.cells #[.int .i64 0, .int .i64 0, .int .i64 0, .int .i64 0] t)) := ((Below.refl _ _).alloc (Nat.le_refl _) _).alloc (by simp) _
  have a1 : ∀ (u : World) (o : Obj), Below u.heap.size u (u.alloc o) := fun u o => (Below.refl _ _).alloc (Nat.le_refl _) _
  have s3 := hb.size
  have s5 := hb2.size
  simp at s3 s5
  have hB3 := hB0.trans (Below.mono hb (by simp; omega))
  have hB4 := hB3.trans (Below.mono (a1 w3 (.cells #[.int .i64 x.ep, .int .i64 x.pg, .int .i64 x.dr, .int .i64 x.wd] t)) hB3.size)
  have hB5 := hB4.trans (Below.mono hb2 hB4.size)
  exact ⟨(((h4.below hb).below (a1 _ _)).below hb2).below (a1 _ _), (((h5.below hb).below (a1 _ _)).below hb2).below (a1 _ _), ((RtAt.new w3 x t).below hb2).below (a1 _ _), RtAt.new w5 y t, hB5.trans (Below.mono (a1 _ _) hB5.size), by omega, by omega⟩
section
variable (A B : ByteArray) (w : World)
set_option maxHeartbeats 800000 in
theorem newest_w0 (x y : Rt) (f : Int)
    (HA : Hid (∀ w, Calls Tryz.prog 164 #[.string A, .int .i64 0] w fun e' w' => e' = .returned (.tuple #[x.val, .int .i64 1]) ∧ Below w.heap.size w w'))
    (HB : Hid (∀ w, Calls Tryz.prog 164 #[.string B, .int .i64 4] w fun e' w' => e' = .returned (.tuple #[y.val, .int .i64 f]) ∧ Below w.heap.size w w')) :
    Calls Tryz.prog 128 #[.string A, .string B] w fun e' w' => e' = .returned (.tuple #[Rt.none_.val, Rt.none_.val, .int .i64 1]) ∧ Below w.heap.size w w' := by
  unfold Rt.val at *
  go_enter Tryz.func128, Tryz.ntmps128
  go_wp2_with fail
  refine (HA.out _).mono ?_
  rintro e' w3 ⟨rfl, hb⟩
  go_wp2_with fail
  refine (HB.out _).mono ?_
  rintro e' w5 ⟨rfl, hb2⟩
  have HN : Hid (NB w (w5.alloc (.cells #[.int .i64 y.ep, .int .i64 y.pg, .int .i64 y.dr, .int .i64 y.wd] 93)) 93 w3.heap.size w5.heap.size x y) := Lib.hid (NB.make hb hb2)
  go_upto_region 3 with fail
  clear hb hb2 HA HB
  generalize w5.alloc (.cells #[.int .i64 y.ep, .int .i64 y.pg, .int .i64 y.dr, .int .i64 y.wd] 93) = w6 at *
  generalize w3.heap.size = q7 at *
  generalize w5.heap.size = q9 at *
  have k40 := HN.out.b4.c0
  have k41 := HN.out.b4.c1
  have k42 := HN.out.b4.c2
  have k43 := HN.out.b4.c3
  have k50 := HN.out.b5.c0
  have k51 := HN.out.b5.c1
  have k52 := HN.out.b5.c2
  have k53 := HN.out.b5.c3
  have f4 := HN.out.b4.fz
  have f5 := HN.out.b5.fz
  go_wp2_with fail
  have l7 := HN.out.l7
  exact bodyPost_ret (v := .tuple #[.agg #[.int .i64 0, .int .i64 0, .int .i64 0, .int .i64 0], .agg #[.int .i64 0, .int .i64 0, .int .i64 0, .int .i64 0], .int .i64 1]) (by simp [results, Tryz.results128, go_sem, k40, k41, k42, k43, k50, k51, k52, k53]) rfl ⟨rfl, by
    repeat' refine Below.setCell ?_ (by first | exact Nat.le_refl _ | exact Nat.le_succ _) _
    first | exact HN.out.below | exact HN.out.below.drew⟩
set_option maxHeartbeats 800000 in
theorem newest_w1 (x y : Rt) (e : Int)
    (HA : Hid (∀ w, Calls Tryz.prog 164 #[.string A, .int .i64 0] w fun e' w' => e' = .returned (.tuple #[x.val, .int .i64 e]) ∧ Below w.heap.size w w'))
    (HB : Hid (∀ w, Calls Tryz.prog 164 #[.string B, .int .i64 4] w fun e' w' => e' = .returned (.tuple #[y.val, .int .i64 1]) ∧ Below w.heap.size w w')) (h1 : (e == 1) = false) :
    Calls Tryz.prog 128 #[.string A, .string B] w fun e' w' => e' = .returned (.tuple #[Rt.none_.val, Rt.none_.val, .int .i64 1]) ∧ Below w.heap.size w w' := by
  unfold Rt.val at *
  go_enter Tryz.func128, Tryz.ntmps128
  go_wp2_with fail
  refine (HA.out _).mono ?_
  rintro e' w3 ⟨rfl, hb⟩
  go_wp2_with fail
  refine (HB.out _).mono ?_
  rintro e' w5 ⟨rfl, hb2⟩
  have HN : Hid (NB w (w5.alloc (.cells #[.int .i64 y.ep, .int .i64 y.pg, .int .i64 y.dr, .int .i64 y.wd] 93)) 93 w3.heap.size w5.heap.size x y) := Lib.hid (NB.make hb hb2)
  go_upto_region 3 with fail
  clear hb hb2 HA HB
  generalize w5.alloc (.cells #[.int .i64 y.ep, .int .i64 y.pg, .int .i64 y.dr, .int .i64 y.wd] 93) = w6 at *
  generalize w3.heap.size = q7 at *
  generalize w5.heap.size = q9 at *
  have k40 := HN.out.b4.c0
  have k41 := HN.out.b4.c1
  have k42 := HN.out.b4.c2
  have k43 := HN.out.b4.c3
  have k50 := HN.out.b5.c0
  have k51 := HN.out.b5.c1
  have k52 := HN.out.b5.c2
  have k53 := HN.out.b5.c3
  have f4 := HN.out.b4.fz
  have f5 := HN.out.b5.fz
  go_wp2_with fail
  have l7 := HN.out.l7
  exact bodyPost_ret (v := .tuple #[.agg #[.int .i64 0, .int .i64 0, .int .i64 0, .int .i64 0], .agg #[.int .i64 0, .int .i64 0, .int .i64 0, .int .i64 0], .int .i64 1]) (by simp [results, Tryz.results128, go_sem, k40, k41, k42, k43, k50, k51, k52, k53]) rfl ⟨rfl, by
    repeat' refine Below.setCell ?_ (by first | exact Nat.le_refl _ | exact Nat.le_succ _) _
    first | exact HN.out.below | exact HN.out.below.drew⟩
set_option maxHeartbeats 800000 in
theorem newest_w2 (e f : Int)
    (HA : Hid (∀ w, Calls Tryz.prog 164 #[.string A, .int .i64 0] w fun e' w' => e' = .returned (.tuple #[Rt.none_.val, .int .i64 e]) ∧ Below w.heap.size w w'))
    (HB : Hid (∀ w, Calls Tryz.prog 164 #[.string B, .int .i64 4] w fun e' w' => e' = .returned (.tuple #[Rt.none_.val, .int .i64 f]) ∧ Below w.heap.size w w')) (h1 : (e == 1) = false) (h2 : (f == 1) = false) :
    Calls Tryz.prog 128 #[.string A, .string B] w fun e' w' => e' = .returned (.tuple #[Rt.none_.val, Rt.none_.val, .int .i64 (withE e f)]) ∧ Below w.heap.size w w' := by
  have HW := Lib.hid (fun w => without_any e f w)
  generalize withE e f = V at *
  unfold Rt.val at *
  go_enter Tryz.func128, Tryz.ntmps128
  go_wp2_with fail
  refine (HA.out _).mono ?_
  rintro e' w3 ⟨rfl, hb⟩
  go_wp2_with fail
  refine (HB.out _).mono ?_
  rintro e' w5 ⟨rfl, hb2⟩
  have HN : Hid (NB w (w5.alloc (.cells #[.int .i64 Rt.none_.ep, .int .i64 Rt.none_.pg, .int .i64 Rt.none_.dr, .int .i64 Rt.none_.wd] 93)) 93 w3.heap.size w5.heap.size Rt.none_ Rt.none_) := Lib.hid (NB.make hb hb2)
  go_upto_region 3 with fail
  clear hb hb2 HA HB
  generalize w5.alloc (.cells #[.int .i64 Rt.none_.ep, .int .i64 Rt.none_.pg, .int .i64 Rt.none_.dr, .int .i64 Rt.none_.wd] 93) = w6 at *
  generalize w3.heap.size = q7 at *
  generalize w5.heap.size = q9 at *
  have k70 : w6.cell? ⟨q7, 0, none⟩ = some (.int .i64 0) := HN.out.b7.c0
  have k71 : w6.cell? ⟨q7, 1, none⟩ = some (.int .i64 0) := HN.out.b7.c1
  have k72 : w6.cell? ⟨q7, 2, none⟩ = some (.int .i64 0) := HN.out.b7.c2
  have k73 : w6.cell? ⟨q7, 3, none⟩ = some (.int .i64 0) := HN.out.b7.c3
  have k90 : w6.cell? ⟨q9, 0, none⟩ = some (.int .i64 0) := HN.out.b9.c0
  have k40 := HN.out.b4.c0
  have k41 := HN.out.b4.c1
  have k42 := HN.out.b4.c2
  have k43 := HN.out.b4.c3
  have k50 := HN.out.b5.c0
  have k51 := HN.out.b5.c1
  have k52 := HN.out.b5.c2
  have k53 := HN.out.b5.c3
  have f4 := HN.out.b4.fz
  have f5 := HN.out.b5.fz
  go_wp2_with (go_at_call 165; refine (HW.out _).mono ?_; rintro e w7 ⟨rfl, rfl⟩)
  have l7 := HN.out.l7
  exact bodyPost_ret (v := .tuple #[.agg #[.int .i64 0, .int .i64 0, .int .i64 0, .int .i64 0], .agg #[.int .i64 0, .int .i64 0, .int .i64 0, .int .i64 0], .int .i64 V]) (by simp [results, Tryz.results128, go_sem, k40, k41, k42, k43, k50, k51, k52, k53]) rfl ⟨rfl, by
    repeat' refine Below.setCell ?_ (by first | exact Nat.le_refl _ | exact Nat.le_succ _) _
    first | exact HN.out.below | exact HN.out.below.drew⟩
set_option maxHeartbeats 1600000 in
theorem newest_w3k (x y : Rt) (e f : Int)
    (HA : Hid (∀ w, Calls Tryz.prog 164 #[.string A, .int .i64 0] w fun e' w' => e' = .returned (.tuple #[x.val, .int .i64 e]) ∧ Below w.heap.size w w'))
    (HB : Hid (∀ w, Calls Tryz.prog 164 #[.string B, .int .i64 4] w fun e' w' => e' = .returned (.tuple #[y.val, .int .i64 f]) ∧ Below w.heap.size w w')) (h1 : (e == 1) = false) (h2 : (f == 1) = false) (h3 : ¬ x.ep < y.ep) (h4 : ¬ x.ep = 0) (h5 : 0 ≤ x.ep) (h6 : x.ep ≤ 4611686018427387904) (h7 : (y.ep != x.ep - 1) = false) :
    Calls Tryz.prog 128 #[.string A, .string B] w fun e' w' => e' = .returned (.tuple #[x.val, y.val, .int .i64 0]) ∧ Below w.heap.size w w' := by
  unfold Rt.val at *
  go_enter Tryz.func128, Tryz.ntmps128
  go_wp2_with fail
  refine (HA.out _).mono ?_
  rintro e' w3 ⟨rfl, hb⟩
  go_wp2_with fail
  refine (HB.out _).mono ?_
  rintro e' w5 ⟨rfl, hb2⟩
  have HN : Hid (NB w (w5.alloc (.cells #[.int .i64 y.ep, .int .i64 y.pg, .int .i64 y.dr, .int .i64 y.wd] 93)) 93 w3.heap.size w5.heap.size x y) := Lib.hid (NB.make hb hb2)
  go_upto_region 3 with fail
  clear hb hb2 HA HB
  generalize w5.alloc (.cells #[.int .i64 y.ep, .int .i64 y.pg, .int .i64 y.dr, .int .i64 y.wd] 93) = w6 at *
  generalize w3.heap.size = q7 at *
  generalize w5.heap.size = q9 at *
  have HM := HN
  clear HN
  have k70 := HM.out.b7.c0
  have k71 := HM.out.b7.c1
  have k72 := HM.out.b7.c2
  have k73 := HM.out.b7.c3
  have k90 := HM.out.b9.c0
  have k91 := HM.out.b9.c1
  have k92 := HM.out.b9.c2
  have k93 := HM.out.b9.c3
  have f7 := HM.out.b7.fz
  have f9 := HM.out.b9.fz
  have l9 : q7 ≠ q9 := Nat.ne_of_lt HM.out.l9
  go_upto_region 11 with fail
  have k40 := HM.out.b4.c0
  have k41 := HM.out.b4.c1
  have k42 := HM.out.b4.c2
  have k43 := HM.out.b4.c3
  have k50 := HM.out.b5.c0
  have k51 := HM.out.b5.c1
  have k52 := HM.out.b5.c2
  have k53 := HM.out.b5.c3
  have f4 := HM.out.b4.fz
  have f5 := HM.out.b5.fz
  have l7 := HM.out.l7
  have l8 := HM.out.l9
  have n47 : q7 ≠ w.heap.size := by omega
  have n57 : q7 ≠ w.heap.size + 1 := by omega
  have n49 : q9 ≠ w.heap.size := by omega
  have n59 : q9 ≠ w.heap.size + 1 := by omega
  have HF : Hid (Below w.heap.size w (set4 (set4 w6 w.heap.size x) (w.heap.size + 1) y)) := Lib.hid (below_set4 (below_set4 HM.out.below (Nat.le_refl _) _) (Nat.le_succ _) _)
  unfold set4 at HF
  clear HM h1 h2 h4 h5 h6 h7
  go_region_with (fail)
  all_goals
    go_wp2_with fail
    exact bodyPost_ret (v := .tuple #[.agg #[.int .i64 x.ep, .int .i64 x.pg, .int .i64 x.dr, .int .i64 x.wd], .agg #[.int .i64 y.ep, .int .i64 y.pg, .int .i64 y.dr, .int .i64 y.wd], .int .i64 0]) (by simp [results, Tryz.results128, go_sem, k40, k41, k42, k43, k50, k51, k52, k53]) rfl ⟨rfl, by first | exact HF.out.drew | exact HF.out⟩
set_option maxHeartbeats 1600000 in
theorem newest_w3d (x y : Rt) (e f : Int)
    (HA : Hid (∀ w, Calls Tryz.prog 164 #[.string A, .int .i64 0] w fun e' w' => e' = .returned (.tuple #[x.val, .int .i64 e]) ∧ Below w.heap.size w w'))
    (HB : Hid (∀ w, Calls Tryz.prog 164 #[.string B, .int .i64 4] w fun e' w' => e' = .returned (.tuple #[y.val, .int .i64 f]) ∧ Below w.heap.size w w')) (h1 : (e == 1) = false) (h2 : (f == 1) = false) (h3 : ¬ x.ep < y.ep) (h4 : ¬ x.ep = 0) (h5 : 0 ≤ x.ep) (h6 : x.ep ≤ 4611686018427387904) (h7 : (y.ep != x.ep - 1) = true) :
    Calls Tryz.prog 128 #[.string A, .string B] w fun e' w' => e' = .returned (.tuple #[x.val, Rt.none_.val, .int .i64 0]) ∧ Below w.heap.size w w' := by
  unfold Rt.val at *
  go_enter Tryz.func128, Tryz.ntmps128
  go_wp2_with fail
  refine (HA.out _).mono ?_
  rintro e' w3 ⟨rfl, hb⟩
  go_wp2_with fail
  refine (HB.out _).mono ?_
  rintro e' w5 ⟨rfl, hb2⟩
  have HN : Hid (NB w (w5.alloc (.cells #[.int .i64 y.ep, .int .i64 y.pg, .int .i64 y.dr, .int .i64 y.wd] 93)) 93 w3.heap.size w5.heap.size x y) := Lib.hid (NB.make hb hb2)
  go_upto_region 3 with fail
  clear hb hb2 HA HB
  generalize w5.alloc (.cells #[.int .i64 y.ep, .int .i64 y.pg, .int .i64 y.dr, .int .i64 y.wd] 93) = w6 at *
  generalize w3.heap.size = q7 at *
  generalize w5.heap.size = q9 at *
  have HM := HN
  clear HN
  have k70 := HM.out.b7.c0
  have k71 := HM.out.b7.c1
  have k72 := HM.out.b7.c2
  have k73 := HM.out.b7.c3
  have k90 := HM.out.b9.c0
  have k91 := HM.out.b9.c1
  have k92 := HM.out.b9.c2
  have k93 := HM.out.b9.c3
  have f7 := HM.out.b7.fz
  have f9 := HM.out.b9.fz
  have l9 : q7 ≠ q9 := Nat.ne_of_lt HM.out.l9
  go_upto_region 11 with fail
  have HQ := Lib.hid (HM.out.drop9 Rt.none_)
  unfold set4 at HQ
  clear k70 k71 k72 k73 k90 k91 k92 k93 f7 f9 HM
  change Code.wp _ _ _ _ ((((World.setCell _ _ (.int .i64 Rt.none_.ep)).setCell _ (.int .i64 Rt.none_.pg)).setCell _ (.int .i64 Rt.none_.dr)).setCell _ (.int .i64 Rt.none_.wd))
  generalize World.setCell _ _ (.int .i64 Rt.none_.wd) = w8 at *
  have k70 := HQ.out.b7.c0
  have k71 := HQ.out.b7.c1
  have k72 := HQ.out.b7.c2
  have k73 := HQ.out.b7.c3
  have k90 : w8.cell? ⟨q9, 0, none⟩ = some (.int .i64 0) := HQ.out.b9.c0
  have k91 : w8.cell? ⟨q9, 1, none⟩ = some (.int .i64 0) := HQ.out.b9.c1
  have k92 : w8.cell? ⟨q9, 2, none⟩ = some (.int .i64 0) := HQ.out.b9.c2
  have k93 : w8.cell? ⟨q9, 3, none⟩ = some (.int .i64 0) := HQ.out.b9.c3
  have f7 := HQ.out.b7.fz
  have f9 := HQ.out.b9.fz
  have k40 := HQ.out.b4.c0
  have k41 := HQ.out.b4.c1
  have k42 := HQ.out.b4.c2
  have k43 := HQ.out.b4.c3
  have k50 := HQ.out.b5.c0
  have k51 := HQ.out.b5.c1
  have k52 := HQ.out.b5.c2
  have k53 := HQ.out.b5.c3
  have f4 := HQ.out.b4.fz
  have f5 := HQ.out.b5.fz
  have l7 := HQ.out.l7
  have l8 := HQ.out.l9
  have n47 : q7 ≠ w.heap.size := by omega
  have n57 : q7 ≠ w.heap.size + 1 := by omega
  have n49 : q9 ≠ w.heap.size := by omega
  have n59 : q9 ≠ w.heap.size + 1 := by omega
  have HF : Hid (Below w.heap.size w (set4 (set4 w8 w.heap.size x) (w.heap.size + 1) Rt.none_)) := Lib.hid (below_set4 (below_set4 HQ.out.below (Nat.le_refl _) _) (Nat.le_succ _) _)
  unfold set4 Rt.none_ at HF
  clear HQ h1 h2 h4 h5 h6 h7
  go_region_with (fail)
  all_goals
    go_wp2_with fail
    exact bodyPost_ret (v := .tuple #[.agg #[.int .i64 x.ep, .int .i64 x.pg, .int .i64 x.dr, .int .i64 x.wd], .agg #[.int .i64 0, .int .i64 0, .int .i64 0, .int .i64 0], .int .i64 0]) (by simp [results, Tryz.results128, go_sem, k40, k41, k42, k43, k50, k51, k52, k53]) rfl ⟨rfl, by first | exact HF.out.drew | exact HF.out⟩
set_option maxHeartbeats 1600000 in
theorem newest_w4k (x y : Rt) (e f : Int)
    (HA : Hid (∀ w, Calls Tryz.prog 164 #[.string A, .int .i64 0] w fun e' w' => e' = .returned (.tuple #[x.val, .int .i64 e]) ∧ Below w.heap.size w w'))
    (HB : Hid (∀ w, Calls Tryz.prog 164 #[.string B, .int .i64 4] w fun e' w' => e' = .returned (.tuple #[y.val, .int .i64 f]) ∧ Below w.heap.size w w')) (h1 : (e == 1) = false) (h2 : (f == 1) = false) (h3 : x.ep < y.ep) (h4 : ¬ y.ep = 0) (h5 : 0 ≤ y.ep) (h6 : y.ep ≤ 4611686018427387904) (h7 : (x.ep != y.ep - 1) = false) :
    Calls Tryz.prog 128 #[.string A, .string B] w fun e' w' => e' = .returned (.tuple #[y.val, x.val, .int .i64 0]) ∧ Below w.heap.size w w' := by
  unfold Rt.val at *
  go_enter Tryz.func128, Tryz.ntmps128
  go_wp2_with fail
  refine (HA.out _).mono ?_
  rintro e' w3 ⟨rfl, hb⟩
  go_wp2_with fail
  refine (HB.out _).mono ?_
  rintro e' w5 ⟨rfl, hb2⟩
  have HN : Hid (NB w (w5.alloc (.cells #[.int .i64 y.ep, .int .i64 y.pg, .int .i64 y.dr, .int .i64 y.wd] 93)) 93 w3.heap.size w5.heap.size x y) := Lib.hid (NB.make hb hb2)
  go_upto_region 3 with fail
  clear hb hb2 HA HB
  generalize w5.alloc (.cells #[.int .i64 y.ep, .int .i64 y.pg, .int .i64 y.dr, .int .i64 y.wd] 93) = w6 at *
  generalize w3.heap.size = q7 at *
  generalize w5.heap.size = q9 at *
  have k70 := HN.out.b7.c0
  have k71 := HN.out.b7.c1
  have k72 := HN.out.b7.c2
  have k73 := HN.out.b7.c3
  have k90 := HN.out.b9.c0
  have k91 := HN.out.b9.c1
  have k92 := HN.out.b9.c2
  have k93 := HN.out.b9.c3
  have f7 := HN.out.b7.fz
  have f9 := HN.out.b9.fz
  have l9 : q7 ≠ q9 := Nat.ne_of_lt HN.out.l9
  go_upto_region 7 with fail
  have HM := Lib.hid HN.out.swap
  unfold set4 at HM
  clear k70 k71 k72 k73 k90 k91 k92 k93 f7 f9 HN h3
  generalize World.setCell _ _ _ = w7 at *
  have k70 := HM.out.b7.c0
  have k71 := HM.out.b7.c1
  have k72 := HM.out.b7.c2
  have k73 := HM.out.b7.c3
  have k90 := HM.out.b9.c0
  have k91 := HM.out.b9.c1
  have k92 := HM.out.b9.c2
  have k93 := HM.out.b9.c3
  have f7 := HM.out.b7.fz
  have f9 := HM.out.b9.fz
  have l9 : q7 ≠ q9 := Nat.ne_of_lt HM.out.l9
  go_upto_region 11 with fail
  have k40 := HM.out.b4.c0
  have k41 := HM.out.b4.c1
  have k42 := HM.out.b4.c2
  have k43 := HM.out.b4.c3
  have k50 := HM.out.b5.c0
  have k51 := HM.out.b5.c1
  have k52 := HM.out.b5.c2
  have k53 := HM.out.b5.c3
  have f4 := HM.out.b4.fz
  have f5 := HM.out.b5.fz
  have l7 := HM.out.l7
  have l8 := HM.out.l9
  have n47 : q7 ≠ w.heap.size := by omega
  have n57 : q7 ≠ w.heap.size + 1 := by omega
  have n49 : q9 ≠ w.heap.size := by omega
  have n59 : q9 ≠ w.heap.size + 1 := by omega
  have HF : Hid (Below w.heap.size w (set4 (set4 w7 w.heap.size y) (w.heap.size + 1) x)) := Lib.hid (below_set4 (below_set4 HM.out.below (Nat.le_refl _) _) (Nat.le_succ _) _)
  unfold set4 at HF
  clear HM h1 h2 h4 h5 h6 h7
  go_region_with (fail)
  all_goals
    go_wp2_with fail
    exact bodyPost_ret (v := .tuple #[.agg #[.int .i64 y.ep, .int .i64 y.pg, .int .i64 y.dr, .int .i64 y.wd], .agg #[.int .i64 x.ep, .int .i64 x.pg, .int .i64 x.dr, .int .i64 x.wd], .int .i64 0]) (by simp [results, Tryz.results128, go_sem, k40, k41, k42, k43, k50, k51, k52, k53]) rfl ⟨rfl, by first | exact HF.out.drew | exact HF.out⟩
set_option maxHeartbeats 1600000 in
theorem newest_w4d (x y : Rt) (e f : Int)
    (HA : Hid (∀ w, Calls Tryz.prog 164 #[.string A, .int .i64 0] w fun e' w' => e' = .returned (.tuple #[x.val, .int .i64 e]) ∧ Below w.heap.size w w'))
    (HB : Hid (∀ w, Calls Tryz.prog 164 #[.string B, .int .i64 4] w fun e' w' => e' = .returned (.tuple #[y.val, .int .i64 f]) ∧ Below w.heap.size w w')) (h1 : (e == 1) = false) (h2 : (f == 1) = false) (h3 : x.ep < y.ep) (h4 : ¬ y.ep = 0) (h5 : 0 ≤ y.ep) (h6 : y.ep ≤ 4611686018427387904) (h7 : (x.ep != y.ep - 1) = true) :
    Calls Tryz.prog 128 #[.string A, .string B] w fun e' w' => e' = .returned (.tuple #[y.val, Rt.none_.val, .int .i64 0]) ∧ Below w.heap.size w w' := by
  unfold Rt.val at *
  go_enter Tryz.func128, Tryz.ntmps128
  go_wp2_with fail
  refine (HA.out _).mono ?_
  rintro e' w3 ⟨rfl, hb⟩
  go_wp2_with fail
  refine (HB.out _).mono ?_
  rintro e' w5 ⟨rfl, hb2⟩
  have HN : Hid (NB w (w5.alloc (.cells #[.int .i64 y.ep, .int .i64 y.pg, .int .i64 y.dr, .int .i64 y.wd] 93)) 93 w3.heap.size w5.heap.size x y) := Lib.hid (NB.make hb hb2)
  go_upto_region 3 with fail
  clear hb hb2 HA HB
  generalize w5.alloc (.cells #[.int .i64 y.ep, .int .i64 y.pg, .int .i64 y.dr, .int .i64 y.wd] 93) = w6 at *
  generalize w3.heap.size = q7 at *
  generalize w5.heap.size = q9 at *
  have k70 := HN.out.b7.c0
  have k71 := HN.out.b7.c1
  have k72 := HN.out.b7.c2
  have k73 := HN.out.b7.c3
  have k90 := HN.out.b9.c0
  have k91 := HN.out.b9.c1
  have k92 := HN.out.b9.c2
  have k93 := HN.out.b9.c3
  have f7 := HN.out.b7.fz
  have f9 := HN.out.b9.fz
  have l9 : q7 ≠ q9 := Nat.ne_of_lt HN.out.l9
  go_upto_region 7 with fail
  have HM := Lib.hid HN.out.swap
  unfold set4 at HM
  clear k70 k71 k72 k73 k90 k91 k92 k93 f7 f9 HN h3
  generalize World.setCell _ _ _ = w7 at *
  have k70 := HM.out.b7.c0
  have k71 := HM.out.b7.c1
  have k72 := HM.out.b7.c2
  have k73 := HM.out.b7.c3
  have k90 := HM.out.b9.c0
  have k91 := HM.out.b9.c1
  have k92 := HM.out.b9.c2
  have k93 := HM.out.b9.c3
  have f7 := HM.out.b7.fz
  have f9 := HM.out.b9.fz
  have l9 : q7 ≠ q9 := Nat.ne_of_lt HM.out.l9
  go_upto_region 11 with fail
  have HQ := Lib.hid (HM.out.drop9 Rt.none_)
  unfold set4 at HQ
  clear k70 k71 k72 k73 k90 k91 k92 k93 f7 f9 HM
  change Code.wp _ _ _ _ ((((World.setCell _ _ (.int .i64 Rt.none_.ep)).setCell _ (.int .i64 Rt.none_.pg)).setCell _ (.int .i64 Rt.none_.dr)).setCell _ (.int .i64 Rt.none_.wd))
  generalize World.setCell _ _ (.int .i64 Rt.none_.wd) = w8 at *
  have k70 := HQ.out.b7.c0
  have k71 := HQ.out.b7.c1
  have k72 := HQ.out.b7.c2
  have k73 := HQ.out.b7.c3
  have k90 : w8.cell? ⟨q9, 0, none⟩ = some (.int .i64 0) := HQ.out.b9.c0
  have k91 : w8.cell? ⟨q9, 1, none⟩ = some (.int .i64 0) := HQ.out.b9.c1
  have k92 : w8.cell? ⟨q9, 2, none⟩ = some (.int .i64 0) := HQ.out.b9.c2
  have k93 : w8.cell? ⟨q9, 3, none⟩ = some (.int .i64 0) := HQ.out.b9.c3
  have f7 := HQ.out.b7.fz
  have f9 := HQ.out.b9.fz
  have k40 := HQ.out.b4.c0
  have k41 := HQ.out.b4.c1
  have k42 := HQ.out.b4.c2
  have k43 := HQ.out.b4.c3
  have k50 := HQ.out.b5.c0
  have k51 := HQ.out.b5.c1
  have k52 := HQ.out.b5.c2
  have k53 := HQ.out.b5.c3
  have f4 := HQ.out.b4.fz
  have f5 := HQ.out.b5.fz
  have l7 := HQ.out.l7
  have l8 := HQ.out.l9
  have n47 : q7 ≠ w.heap.size := by omega
  have n57 : q7 ≠ w.heap.size + 1 := by omega
  have n49 : q9 ≠ w.heap.size := by omega
  have n59 : q9 ≠ w.heap.size + 1 := by omega
  have HF : Hid (Below w.heap.size w (set4 (set4 w8 w.heap.size y) (w.heap.size + 1) Rt.none_)) := Lib.hid (below_set4 (below_set4 HQ.out.below (Nat.le_refl _) _) (Nat.le_succ _) _)
  unfold set4 Rt.none_ at HF
  clear HQ h1 h2 h4 h5 h6 h7
  go_region_with (fail)
  all_goals
    go_wp2_with fail
    exact bodyPost_ret (v := .tuple #[.agg #[.int .i64 y.ep, .int .i64 y.pg, .int .i64 y.dr, .int .i64 y.wd], .agg #[.int .i64 0, .int .i64 0, .int .i64 0, .int .i64 0], .int .i64 0]) (by simp [results, Tryz.results128, go_sem, k40, k41, k42, k43, k50, k51, k52, k53]) rfl ⟨rfl, by first | exact HF.out.drew | exact HF.out⟩
/-- What two blocks tell, by what each tells. -/
theorem nw_bad {a b : List Nat} (h : plE a 0 = 1 ∨ plE b 4 = 1) : nwE a b = 1 ∧ nwA a b = Rt.none_ ∧ nwB a b = Rt.none_ := by
  have hE : nwE a b = 1 := by unfold nwE; rw [if_pos h]
  exact ⟨hE, by unfold nwA; rw [if_neg (by rw [hE]; omega)], by unfold nwB; rw [if_neg (by rw [hE]; omega)]⟩
theorem withE_ne (e f : Int) : withE e f ≠ 0 := by unfold withE; split <;> omega
theorem nw_none {a b : List Nat} (h1 : plE a 0 ≠ 1) (h2 : plE b 4 ≠ 1) (h3 : plE a 0 ≠ 0) (h4 : plE b 4 ≠ 0) : nwE a b = withE (plE a 0) (plE b 4) ∧ nwA a b = Rt.none_ ∧ nwB a b = Rt.none_ := by
  have hE : nwE a b = withE (plE a 0) (plE b 4) := by unfold nwE; rw [if_neg (fun h => h.elim h1 h2), if_neg (fun h => h.elim h3 h4)]
  have hw := withE_ne (plE a 0) (plE b 4)
  exact ⟨hE, by unfold nwA; rw [if_neg (by rw [hE]; exact hw)], by unfold nwB; rw [if_neg (by rw [hE]; exact hw)]⟩
theorem nw_some {a b : List Nat} (h1 : plE a 0 ≠ 1) (h2 : plE b 4 ≠ 1) (h3 : plE a 0 = 0 ∨ plE b 4 = 0) :
    nwE a b = 0 ∧ nwA a b = (if first_ a b then plR a 0 else plR b 4) ∧ nwB a b = (if first_ a b then pre (plR a 0) (plR b 4) else pre (plR b 4) (plR a 0)) := by
  have hE : nwE a b = 0 := by unfold nwE; rw [if_neg (fun h => h.elim h1 h2), if_pos h3]
  exact ⟨hE, by unfold nwA; rw [if_pos hE], by unfold nwB; rw [if_pos hE]⟩
/-- Which of two blocks tells the root that counts. -/
theorem nw_pick {a b : List Nat} (_h1 : plE a 0 ≠ 1) (_h2 : plE b 4 ≠ 1) (h3 : plE a 0 = 0 ∨ plE b 4 = 0) :
    (first_ a b ∧ ¬ (plR a 0).ep < (plR b 4).ep ∧ Mays (plR a 0) ∧ 0 ≤ (plR b 4).ep) ∨ (¬ first_ a b ∧ (plR a 0).ep < (plR b 4).ep ∧ Mays (plR b 4) ∧ 0 ≤ (plR a 0).ep) := by
  by_cases ha : plE a 0 = 0
  · have hm := (pl_ok ha).2.2.2
    have e0 := hm.e0
    by_cases hb : plE b 4 = 0
    · have hm2 := (pl_ok hb).2.2.2
      have e2 := hm2.e0
      have p1 := pl_even ha
      have p2 := pl_odd hb
      by_cases hl : (plR b 4).ep < (plR a 0).ep
      · exact .inl ⟨⟨ha, .inr hl⟩, by omega, hm, by omega⟩
      · exact .inr ⟨fun h => h.2.elim (fun h => h hb) hl, by omega, hm2, by omega⟩
    · have hn := pl_no hb
      refine .inl ⟨⟨ha, .inl hb⟩, ?_, hm, ?_⟩
      · rw [hn]; show ¬ _ < (0 : Int); omega
      · rw [hn]; exact Int.le_refl 0
  · have hb := h3.resolve_left ha
    have hm := (pl_ok hb).2.2.2
    have e0 := hm.e0
    have hn := pl_no ha
    refine .inr ⟨fun h => ha h.1, ?_, hm, ?_⟩
    · rw [hn]; show (0 : Int) < _; omega
    · rw [hn]; exact Int.le_refl 0
theorem newest_any (a b : List Nat) (hA : IsS A a) (hB : IsS B b) :
    Calls Tryz.prog 128 #[.string A, .string B] w fun e' w' => e' = .returned (.tuple #[(nwA a b).val, (nwB a b).val, .int .i64 (nwE a b)]) ∧ Below w.heap.size w w' := by
  have HA := Lib.hid (fun w => placed_any A a 0 w hA)
  have HB := Lib.hid (fun w => placed_any B b 4 w hB)
  by_cases h1 : plE a 0 = 1
  · obtain ⟨r1, r2, r3⟩ := nw_bad (b := b) (Or.inl h1)
    rw [r1, r2, r3]
    rw [h1] at HA
    exact newest_w0 A B w _ _ _ HA HB
  · have k1 : (plE a 0 == 1) = false := by rw [beq_eq_false_iff_ne]; exact h1
    by_cases h2 : plE b 4 = 1
    · obtain ⟨r1, r2, r3⟩ := nw_bad (a := a) (Or.inr h2)
      rw [r1, r2, r3]
      rw [h2] at HB
      exact newest_w1 A B w _ _ _ HA HB k1
    · have k2 : (plE b 4 == 1) = false := by rw [beq_eq_false_iff_ne]; exact h2
      by_cases h3 : plE a 0 = 0 ∨ plE b 4 = 0
      · obtain ⟨r1, r2, r3⟩ := nw_some h1 h2 h3
        rw [r1, r2, r3]
        rcases nw_pick h1 h2 h3 with ⟨hf, hl, hm, _⟩ | ⟨hf, hl, hm, _⟩
        · rw [if_pos hf, if_pos hf]
          have e0 := hm.e0
          by_cases hk : (plR b 4).ep = (plR a 0).ep - 1
          · rw [show pre (plR a 0) (plR b 4) = plR b 4 by unfold pre; rw [if_pos hk]]
            exact newest_w3k A B w _ _ _ _ HA HB k1 k2 hl (by omega) (by omega) hm.e1 (by simp [hk])
          · rw [show pre (plR a 0) (plR b 4) = Rt.none_ by unfold pre; rw [if_neg hk]]
            exact newest_w3d A B w _ _ _ _ HA HB k1 k2 hl (by omega) (by omega) hm.e1 (by simp [hk])
        · rw [if_neg hf, if_neg hf]
          have e0 := hm.e0
          by_cases hk : (plR a 0).ep = (plR b 4).ep - 1
          · rw [show pre (plR b 4) (plR a 0) = plR a 0 by unfold pre; rw [if_pos hk]]
            exact newest_w4k A B w _ _ _ _ HA HB k1 k2 hl (by omega) (by omega) hm.e1 (by simp [hk])
          · rw [show pre (plR b 4) (plR a 0) = Rt.none_ by unfold pre; rw [if_neg hk]]
            exact newest_w4d A B w _ _ _ _ HA HB k1 k2 hl (by omega) (by omega) hm.e1 (by simp [hk])
      · have h3a : plE a 0 ≠ 0 := fun h => h3 (.inl h)
        have h3b : plE b 4 ≠ 0 := fun h => h3 (.inr h)
        obtain ⟨r1, r2, r3⟩ := nw_none h1 h2 h3a h3b
        rw [r1, r2, r3]
        rw [pl_no h3a] at HA
        rw [pl_no h3b] at HB
        exact newest_w2 A B w _ _ HA HB k1 k2
end
end Go.Proofs.YtmbecjlioogbhaaGreatDoor
end
