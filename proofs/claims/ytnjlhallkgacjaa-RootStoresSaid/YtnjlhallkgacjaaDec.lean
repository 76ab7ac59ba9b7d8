/- What Decode returns. -/
import Derived.Test.YtnjlhallkgacjaaTold
import Derived.Test.YtnjlhallkgacjaaEnc
import Derived.WalkSmall
namespace Go.Proofs.Ytnjlhallkgacjaa
open Go.RowKit

theorem toldI_or (s : List Nat) (hd : ∀ x ∈ s, x < 256) : toldI s = told s ∨ (may (toldI s) = false ∧ may (told s) = false) := by
  have h8 : val (s.take 8) < 18446744073709551616 := val_take_lt s 8 8 hd (Nat.le_refl _)
  by_cases h : val (s.take 8) < 9223372036854775808
  · left
    unfold toldI told
    rw [toI_small h]
  · right
    constructor
    · cases hb : may (toldI s) with
      | false => rfl
      | true =>
        have h1 := (may_yes hb).e0
        have h2 := (may_yes hb).e1
        unfold toldI at h1 h2
        simp only at h1 h2
        unfold toI at h1 h2
        rw [if_neg h] at h1 h2
        omega
    · cases hb : may (told s) with
      | false => rfl
      | true =>
        have h2 := (may_yes hb).e1
        unfold told at h2
        simp only at h2
        omega
theorem zs_dig : ∀ x ∈ zs128, x < 256 := dig_zeros 128
/-- A string of zeros out of a slice that was made. -/
theorem zeros_conv {w : World} {g : Nat} (h : w.ownsRow 0 5 1 (.slice (some ⟨g, 0, none⟩) 128 128) 128 (madeCells #[Value.int .u8 0] (128 * 1)).toList) :
    (convert 45 9 (.slice (some ⟨g, 0, none⟩) 128 128)).run Try.prog w = .ok (.string (strB zs128)) w := by
  rw [Nat.mul_one, made_u8s] at h
  exact (Row5.bys h (dig_zeros 128)).conv 128
section
variable (S : ByteArray) (s : List Nat) (w : World)
set_option maxHeartbeats 400000 in
theorem decode_len (hS : IsS S s) (h : s.length ≠ 128) : Calls Try.prog 12 #[.string S] w fun e w' => e = .returned (.tuple #[Rt.none_.val, .int .i64 1]) ∧ Below w.heap.size w w' := by
  have hd : ((S.size : Int) != 128) = true := by rw [hS.size]; simp; omega
  clear h hS
  unfold Rt.val Rt.none_
  go_enter Try.func12, Try.ntmps12
  go_wp2_with fail
  exact bodyPost_ret (v := .tuple #[.agg #[.int .i64 0, .int .i64 0, .int .i64 0, .int .i64 0], .int .i64 1]) (by simp [results, Try.results12, go_sem]) rfl ⟨rfl, (Below.refl _ _).alloc (Nat.le_refl _) _⟩
set_option maxHeartbeats 800000 in
theorem decode_zeros (hS : IsS S s) (hl : s.length = 128) (h : s = zs128) : Calls Try.prog 12 #[.string S] w fun e w' => e = .returned (.tuple #[Rt.none_.val, .int .i64 5]) ∧ Below w.heap.size w w' := by
  have hsz : S.size = 128 := by rw [hS.size, hl]
  have he := hS.yes (IsS.mk_ zs128 zs_dig) h
  clear h hS
  unfold Rt.val Rt.none_
  obtain ⟨i0, hi, hz0, hz1, hz2⟩ := info_parts Try.info5
  have HI := Lib.hid hi
  have HZ0 := Lib.hid hz0
  have HZ1 := Lib.hid hz1
  have HZ2 := Lib.hid hz2
  clear hi hz0 hz1 hz2
  go_enter Try.func12, Try.ntmps12
  go_wp2_with (refine wpList_make_full _ rfl _ _ 45 rfl 0 5 i0 (.int .u8 0) 1 Try.underlying45 HI.out HZ0.out HZ1.out .i64 .i64 128 128 128 rfl rfl rfl rfl (by rw [HZ2.out]; omega) (by unfold maxLen; omega) (Nat.zero_le _) ?_)
  intro w2 hown hgrow
  have HBX : Hid (RtAt w2 w.heap.size 29 Rt.none_) := Lib.hid ((RtAt.new w Rt.none_ 29).below ((Below.refl _ _).grown hgrow (Nat.le_refl _) (fun k e => by cases e)))
  have HB2 : Hid (Below w.heap.size w w2) := Lib.hid (((Below.refl _ _).alloc (Nat.le_refl _) _).grown hgrow (by simp) (fun k e => by cases e))
  have hcv := zeros_conv hown
  clear hown hgrow HI HZ0 HZ1 HZ2
  generalize strB zs128 = Z at *
  have b0 := HBX.out.c0
  have b1 := HBX.out.c1
  have b2 := HBX.out.c2
  have b3 := HBX.out.c3
  have bf := HBX.out.fz
  go_wp2_with fail
  exact bodyPost_ret (v := .tuple #[.agg #[.int .i64 0, .int .i64 0, .int .i64 0, .int .i64 0], .int .i64 5]) (by simp [results, Try.results12, go_sem, b0, b1, b2, b3]) rfl ⟨rfl, (((HB2.out.setCell (Nat.le_refl _) _).setCell (Nat.le_refl _) _).setCell (Nat.le_refl _) _).setCell (Nat.le_refl _) _⟩
set_option maxHeartbeats 800000 in
theorem decode_torn (hS : IsS S s) (hl : s.length = 128) (h : s ≠ zs128) (h8 : s.take 8 ≠ s.drop 120) : Calls Try.prog 12 #[.string S] w fun e w' => e = .returned (.tuple #[Rt.none_.val, .int .i64 4]) ∧ Below w.heap.size w w' := by
  have hsz : S.size = 128 := by rw [hS.size, hl]
  have he := hS.no (IsS.mk_ zs128 zs_dig) h
  have e1 := hS.ext 0 8
  have e2 := hS.ext 120 128
  rw [List.drop_zero, Nat.sub_zero] at e1
  rw [List.take_of_length_le (by rw [List.length_drop]; omega)] at e2
  have hd := e1.no e2 h8
  clear h hS h8 e1 e2
  unfold Rt.val Rt.none_
  obtain ⟨i0, hi, hz0, hz1, hz2⟩ := info_parts Try.info5
  have HI := Lib.hid hi
  have HZ0 := Lib.hid hz0
  have HZ1 := Lib.hid hz1
  have HZ2 := Lib.hid hz2
  clear hi hz0 hz1 hz2
  go_enter Try.func12, Try.ntmps12
  go_wp2_with (refine wpList_make_full _ rfl _ _ 45 rfl 0 5 i0 (.int .u8 0) 1 Try.underlying45 HI.out HZ0.out HZ1.out .i64 .i64 128 128 128 rfl rfl rfl rfl (by rw [HZ2.out]; omega) (by unfold maxLen; omega) (Nat.zero_le _) ?_)
  intro w2 hown hgrow
  have HBX : Hid (RtAt w2 w.heap.size 29 Rt.none_) := Lib.hid ((RtAt.new w Rt.none_ 29).below ((Below.refl _ _).grown hgrow (Nat.le_refl _) (fun k e => by cases e)))
  have HB2 : Hid (Below w.heap.size w w2) := Lib.hid (((Below.refl _ _).alloc (Nat.le_refl _) _).grown hgrow (by simp) (fun k e => by cases e))
  have hcv := zeros_conv hown
  clear hown hgrow HI HZ0 HZ1 HZ2
  generalize strB zs128 = Z at *
  have b0 := HBX.out.c0
  have b1 := HBX.out.c1
  have b2 := HBX.out.c2
  have b3 := HBX.out.c3
  have bf := HBX.out.fz
  go_wp2_with fail
  go_quiet (fail)
  clear b0 b1 b2 b3 bf
  have hbq : Below w2.heap.size w2 (w2.drewN nq) := below_drewN (Below.refl _ _) nq
  have HBX3 := Lib.hid (HBX.out.below hbq)
  have HB3 := Lib.hid (HB2.out.trans (Below.mono hbq HB2.out.size))
  clear hbq HBX HB2 hcv
  generalize w2.drewN nq = w3 at *
  have b0 := HBX3.out.c0
  have b1 := HBX3.out.c1
  have b2 := HBX3.out.c2
  have b3 := HBX3.out.c3
  have bf := HBX3.out.fz
  go_wp2_with fail
  exact bodyPost_ret (v := .tuple #[.agg #[.int .i64 0, .int .i64 0, .int .i64 0, .int .i64 0], .int .i64 4]) (by simp [results, Try.results12, go_sem, b0, b1, b2, b3]) rfl ⟨rfl, (((HB3.out.setCell (Nat.le_refl _) _).setCell (Nat.le_refl _) _).setCell (Nat.le_refl _) _).setCell (Nat.le_refl _) _⟩
set_option maxHeartbeats 800000 in
theorem decode_harm0 (hS : IsS S s) (hl : s.length = 128) (h : s ≠ zs128) (h8 : s.take 8 = s.drop 120) (hm : may (toldI s) = false) : Calls Try.prog 12 #[.string S] w fun e w' => e = .returned (.tuple #[Rt.none_.val, .int .i64 13]) ∧ Below w.heap.size w w' := by
  have HS := Lib.hid hS
  have hsz : S.size = 128 := by rw [hS.size, hl]
  have he := hS.no (IsS.mk_ zs128 zs_dig) h
  have e1 := hS.ext 0 8
  have e2 := hS.ext 120 128
  rw [List.drop_zero, Nat.sub_zero] at e1
  rw [List.take_of_length_le (by rw [List.length_drop]; omega)] at e2
  have hd := e1.yes e2 h8
  have HT := Lib.hid (fun w => told_any S s w HS.out hl)
  generalize toldI s = r at *
  obtain ⟨ep, pg, dr, wd⟩ := r
  clear h hS h8 e1 e2
  unfold Rt.val at *
  try unfold Rt.none_
  obtain ⟨i0, hi, hz0, hz1, hz2⟩ := info_parts Try.info5
  have HI := Lib.hid hi
  have HZ0 := Lib.hid hz0
  have HZ1 := Lib.hid hz1
  have HZ2 := Lib.hid hz2
  clear hi hz0 hz1 hz2
  go_enter Try.func12, Try.ntmps12
  go_wp2_with (refine wpList_make_full _ rfl _ _ 45 rfl 0 5 i0 (.int .u8 0) 1 Try.underlying45 HI.out HZ0.out HZ1.out .i64 .i64 128 128 128 rfl rfl rfl rfl (by rw [HZ2.out]; omega) (by unfold maxLen; omega) (Nat.zero_le _) ?_)
  intro w2 hown hgrow
  have HBX : Hid (RtAt w2 w.heap.size 29 Rt.none_) := Lib.hid ((RtAt.new w Rt.none_ 29).below ((Below.refl _ _).grown hgrow (Nat.le_refl _) (fun k e => by cases e)))
  have HB2 : Hid (Below w.heap.size w w2) := Lib.hid (((Below.refl _ _).alloc (Nat.le_refl _) _).grown hgrow (by simp) (fun k e => by cases e))
  have hcv := zeros_conv hown
  clear hown hgrow HI HZ0 HZ1 HZ2
  generalize strB zs128 = Z at *
  have b0 := HBX.out.c0
  have b1 := HBX.out.c1
  have b2 := HBX.out.c2
  have b3 := HBX.out.c3
  have bf := HBX.out.fz
  go_wp2_with fail
  go_quiet (fail)
  clear b0 b1 b2 b3 bf
  have hbq : Below w2.heap.size w2 (w2.drewN nq) := below_drewN (Below.refl _ _) nq
  have HBX3 := Lib.hid (HBX.out.below hbq)
  have HB3 := Lib.hid (HB2.out.trans (Below.mono hbq HB2.out.size))
  clear hbq HBX HB2 hcv he hd
  generalize w2.drewN nq = w3 at *
  go_wp2_with fail
  refine (HT.out _).mono ?_
  rintro e w4 ⟨rfl, hb4⟩
  have HBX4 := Lib.hid (HBX3.out.below hb4)
  have HB4 := Lib.hid (HB3.out.trans (Below.mono hb4 HB3.out.size))
  clear hb4 HBX3 HB3 HT
  go_wp2_with fail
  have HR5 := Lib.hid (RtAt.new w4 ⟨ep, pg, dr, wd⟩ 29)
  have hb5 : Below w4.heap.size w4 (w4.alloc (.cells #[.int .i64 ep, .int .i64 pg, .int .i64 dr, .int .i64 wd] 29)) := (Below.refl _ _).alloc (Nat.le_refl _) _
  have HBX5 := Lib.hid (HBX4.out.below hb5)
  have HB5 := Lib.hid (HB4.out.trans (Below.mono hb5 HB4.out.size))
  have hne : w.heap.size ≠ w4.heap.size := by have := HBX4.out.lt; omega
  clear hb5 HBX4 HB4
  refine (encode_no ⟨ep, pg, dr, wd⟩ _ hm).mono ?_
  rintro e w6 ⟨rfl, hb6⟩
  have HR6 := Lib.hid (HR5.out.below hb6)
  have HBX6 := Lib.hid (HBX5.out.below hb6)
  have HB6 := Lib.hid (HB5.out.trans (Below.mono hb6 HB5.out.size))
  clear hb6 HR5 HBX5 HB5
  have b0 := HBX6.out.c0
  have b1 := HBX6.out.c1
  have b2 := HBX6.out.c2
  have b3 := HBX6.out.c3
  have bf := HBX6.out.fz
  have r0 := HR6.out.c0
  have r1 := HR6.out.c1
  have r2 := HR6.out.c2
  have r3 := HR6.out.c3
  generalize w4.heap.size = q at *
  go_wp2_with fail
  exact bodyPost_ret (v := .tuple #[.agg #[.int .i64 0, .int .i64 0, .int .i64 0, .int .i64 0], .int .i64 13]) (by simp [results, Try.results12, go_sem, b0, b1, b2, b3]) rfl ⟨rfl, (((HB6.out.setCell (Nat.le_refl _) _).setCell (Nat.le_refl _) _).setCell (Nat.le_refl _) _).setCell (Nat.le_refl _) _⟩
set_option maxHeartbeats 800000 in
theorem decode_harm1 (hS : IsS S s) (hl : s.length = 128) (h : s ≠ zs128) (h8 : s.take 8 = s.drop 120) (hm : may (toldI s) = true) (hb : block (toldI s) ≠ s) : Calls Try.prog 12 #[.string S] w fun e w' => e = .returned (.tuple #[Rt.none_.val, .int .i64 13]) ∧ Below w.heap.size w w' := by
  have HS := Lib.hid hS
  have hsz : S.size = 128 := by rw [hS.size, hl]
  have he := hS.no (IsS.mk_ zs128 zs_dig) h
  have e1 := hS.ext 0 8
  have e2 := hS.ext 120 128
  rw [List.drop_zero, Nat.sub_zero] at e1
  rw [List.take_of_length_le (by rw [List.length_drop]; omega)] at e2
  have hd := e1.yes e2 h8
  have hq := (IsS.mk_ (block (toldI s)) (block_dig _)).no hS hb
  have HT := Lib.hid (fun w => told_any S s w HS.out hl)
  generalize toldI s = r at *
  obtain ⟨ep, pg, dr, wd⟩ := r
  clear h hS h8 e1 e2
  unfold Rt.val at *
  try unfold Rt.none_
  obtain ⟨i0, hi, hz0, hz1, hz2⟩ := info_parts Try.info5
  have HI := Lib.hid hi
  have HZ0 := Lib.hid hz0
  have HZ1 := Lib.hid hz1
  have HZ2 := Lib.hid hz2
  clear hi hz0 hz1 hz2
  go_enter Try.func12, Try.ntmps12
  go_wp2_with (refine wpList_make_full _ rfl _ _ 45 rfl 0 5 i0 (.int .u8 0) 1 Try.underlying45 HI.out HZ0.out HZ1.out .i64 .i64 128 128 128 rfl rfl rfl rfl (by rw [HZ2.out]; omega) (by unfold maxLen; omega) (Nat.zero_le _) ?_)
  intro w2 hown hgrow
  have HBX : Hid (RtAt w2 w.heap.size 29 Rt.none_) := Lib.hid ((RtAt.new w Rt.none_ 29).below ((Below.refl _ _).grown hgrow (Nat.le_refl _) (fun k e => by cases e)))
  have HB2 : Hid (Below w.heap.size w w2) := Lib.hid (((Below.refl _ _).alloc (Nat.le_refl _) _).grown hgrow (by simp) (fun k e => by cases e))
  have hcv := zeros_conv hown
  clear hown hgrow HI HZ0 HZ1 HZ2
  generalize strB zs128 = Z at *
  have b0 := HBX.out.c0
  have b1 := HBX.out.c1
  have b2 := HBX.out.c2
  have b3 := HBX.out.c3
  have bf := HBX.out.fz
  go_wp2_with fail
  go_quiet (fail)
  clear b0 b1 b2 b3 bf
  have hbq : Below w2.heap.size w2 (w2.drewN nq) := below_drewN (Below.refl _ _) nq
  have HBX3 := Lib.hid (HBX.out.below hbq)
  have HB3 := Lib.hid (HB2.out.trans (Below.mono hbq HB2.out.size))
  clear hbq HBX HB2 hcv he hd
  generalize w2.drewN nq = w3 at *
  go_wp2_with fail
  refine (HT.out _).mono ?_
  rintro e w4 ⟨rfl, hb4⟩
  have HBX4 := Lib.hid (HBX3.out.below hb4)
  have HB4 := Lib.hid (HB3.out.trans (Below.mono hb4 HB3.out.size))
  clear hb4 HBX3 HB3 HT
  go_wp2_with fail
  have HR5 := Lib.hid (RtAt.new w4 ⟨ep, pg, dr, wd⟩ 29)
  have hb5 : Below w4.heap.size w4 (w4.alloc (.cells #[.int .i64 ep, .int .i64 pg, .int .i64 dr, .int .i64 wd] 29)) := (Below.refl _ _).alloc (Nat.le_refl _) _
  have HBX5 := Lib.hid (HBX4.out.below hb5)
  have HB5 := Lib.hid (HB4.out.trans (Below.mono hb5 HB4.out.size))
  have hne : w.heap.size ≠ w4.heap.size := by have := HBX4.out.lt; omega
  clear hb5 HBX4 HB4
  refine (encode_yes ⟨ep, pg, dr, wd⟩ _ (may_yes hm)).mono ?_
  rintro e w6 ⟨rfl, hb6⟩
  have HR6 := Lib.hid (HR5.out.below hb6)
  have HBX6 := Lib.hid (HBX5.out.below hb6)
  have HB6 := Lib.hid (HB5.out.trans (Below.mono hb6 HB5.out.size))
  clear hb6 HR5 HBX5 HB5
  have b0 := HBX6.out.c0
  have b1 := HBX6.out.c1
  have b2 := HBX6.out.c2
  have b3 := HBX6.out.c3
  have bf := HBX6.out.fz
  have r0 := HR6.out.c0
  have r1 := HR6.out.c1
  have r2 := HR6.out.c2
  have r3 := HR6.out.c3
  generalize w4.heap.size = q at *
  clear hm hb
  generalize strB (block _) = B at *
  go_wp2_with fail
  exact bodyPost_ret (v := .tuple #[.agg #[.int .i64 0, .int .i64 0, .int .i64 0, .int .i64 0], .int .i64 13]) (by simp [results, Try.results12, go_sem, b0, b1, b2, b3]) rfl ⟨rfl, (((HB6.out.setCell (Nat.le_refl _) _).setCell (Nat.le_refl _) _).setCell (Nat.le_refl _) _).setCell (Nat.le_refl _) _⟩
set_option maxHeartbeats 800000 in
theorem decode_good (hS : IsS S s) (hl : s.length = 128) (h : s ≠ zs128) (h8 : s.take 8 = s.drop 120) (hm : may (toldI s) = true) (hb : block (toldI s) = s) : Calls Try.prog 12 #[.string S] w fun e w' => e = .returned (.tuple #[(toldI s).val, .int .i64 0]) ∧ Below w.heap.size w w' := by
  have HS := Lib.hid hS
  have hsz : S.size = 128 := by rw [hS.size, hl]
  have he := hS.no (IsS.mk_ zs128 zs_dig) h
  have e1 := hS.ext 0 8
  have e2 := hS.ext 120 128
  rw [List.drop_zero, Nat.sub_zero] at e1
  rw [List.take_of_length_le (by rw [List.length_drop]; omega)] at e2
  have hd := e1.yes e2 h8
  have hq := (IsS.mk_ (block (toldI s)) (block_dig _)).yes hS hb
  have HT := Lib.hid (fun w => told_any S s w HS.out hl)
  generalize toldI s = r at *
  obtain ⟨ep, pg, dr, wd⟩ := r
  clear h hS h8 e1 e2
  unfold Rt.val at *
  try unfold Rt.none_
  obtain ⟨i0, hi, hz0, hz1, hz2⟩ := info_parts Try.info5
  have HI := Lib.hid hi
  have HZ0 := Lib.hid hz0
  have HZ1 := Lib.hid hz1
  have HZ2 := Lib.hid hz2
  clear hi hz0 hz1 hz2
  go_enter Try.func12, Try.ntmps12
  go_wp2_with (refine wpList_make_full _ rfl _ _ 45 rfl 0 5 i0 (.int .u8 0) 1 Try.underlying45 HI.out HZ0.out HZ1.out .i64 .i64 128 128 128 rfl rfl rfl rfl (by rw [HZ2.out]; omega) (by unfold maxLen; omega) (Nat.zero_le _) ?_)
  intro w2 hown hgrow
  have HBX : Hid (RtAt w2 w.heap.size 29 Rt.none_) := Lib.hid ((RtAt.new w Rt.none_ 29).below ((Below.refl _ _).grown hgrow (Nat.le_refl _) (fun k e => by cases e)))
  have HB2 : Hid (Below w.heap.size w w2) := Lib.hid (((Below.refl _ _).alloc (Nat.le_refl _) _).grown hgrow (by simp) (fun k e => by cases e))
  have hcv := zeros_conv hown
  clear hown hgrow HI HZ0 HZ1 HZ2
  generalize strB zs128 = Z at *
  have b0 := HBX.out.c0
  have b1 := HBX.out.c1
  have b2 := HBX.out.c2
  have b3 := HBX.out.c3
  have bf := HBX.out.fz
  go_wp2_with fail
  go_quiet (fail)
  clear b0 b1 b2 b3 bf
  have hbq : Below w2.heap.size w2 (w2.drewN nq) := below_drewN (Below.refl _ _) nq
  have HBX3 := Lib.hid (HBX.out.below hbq)
  have HB3 := Lib.hid (HB2.out.trans (Below.mono hbq HB2.out.size))
  clear hbq HBX HB2 hcv he hd
  generalize w2.drewN nq = w3 at *
  go_wp2_with fail
  refine (HT.out _).mono ?_
  rintro e w4 ⟨rfl, hb4⟩
  have HBX4 := Lib.hid (HBX3.out.below hb4)
  have HB4 := Lib.hid (HB3.out.trans (Below.mono hb4 HB3.out.size))
  clear hb4 HBX3 HB3 HT
  go_wp2_with fail
  have HR5 := Lib.hid (RtAt.new w4 ⟨ep, pg, dr, wd⟩ 29)
  have hb5 : Below w4.heap.size w4 (w4.alloc (.cells #[.int .i64 ep, .int .i64 pg, .int .i64 dr, .int .i64 wd] 29)) := (Below.refl _ _).alloc (Nat.le_refl _) _
  have HBX5 := Lib.hid (HBX4.out.below hb5)
  have HB5 := Lib.hid (HB4.out.trans (Below.mono hb5 HB4.out.size))
  have hne : w.heap.size ≠ w4.heap.size := by have := HBX4.out.lt; omega
  clear hb5 HBX4 HB4
  refine (encode_yes ⟨ep, pg, dr, wd⟩ _ (may_yes hm)).mono ?_
  rintro e w6 ⟨rfl, hb6⟩
  have HR6 := Lib.hid (HR5.out.below hb6)
  have HBX6 := Lib.hid (HBX5.out.below hb6)
  have HB6 := Lib.hid (HB5.out.trans (Below.mono hb6 HB5.out.size))
  clear hb6 HR5 HBX5 HB5
  have b0 := HBX6.out.c0
  have b1 := HBX6.out.c1
  have b2 := HBX6.out.c2
  have b3 := HBX6.out.c3
  have bf := HBX6.out.fz
  have r0 := HR6.out.c0
  have r1 := HR6.out.c1
  have r2 := HR6.out.c2
  have r3 := HR6.out.c3
  generalize w4.heap.size = q at *
  clear hm hb
  generalize strB (block _) = B at *
  go_wp2_with fail
  exact bodyPost_ret (v := .tuple #[.agg #[.int .i64 ep, .int .i64 pg, .int .i64 dr, .int .i64 wd], .int .i64 0]) (by simp [results, Try.results12, go_sem, b0, b1, b2, b3]) rfl ⟨rfl, (((HB6.out.setCell (Nat.le_refl _) _).setCell (Nat.le_refl _) _).setCell (Nat.le_refl _) _).setCell (Nat.le_refl _) _⟩
/-- Decode, for any string. -/
theorem decode_any (hS : IsS S s) : Calls Try.prog 12 #[.string S] w fun e w' => e = .returned (.tuple #[(decR s).val, .int .i64 (decE s)]) ∧ Below w.heap.size w w' := by
  by_cases hl : s.length = 128
  · by_cases hz : s = zs128
    · have hE : decE s = 5 := by unfold decE; rw [if_neg (by simp [hl]), if_pos hz]
      rw [hE, decR_no (by rw [hE]; omega)]
      exact decode_zeros S s w hS hl hz
    · by_cases h8 : s.take 8 = s.drop 120
      · obtain ⟨h1, h2, h3⟩ := dec_other hl hz h8 (toldI_or s hS.dig)
        by_cases hm : may (toldI s) = true
        · by_cases hb : block (toldI s) = s
          · obtain ⟨h4, h5⟩ := h3 hm hb
            rw [h4, h5]
            exact decode_good S s w hS hl hz h8 hm hb
          · have hE := h2 hm hb
            rw [hE, decR_no (by rw [hE]; omega)]
            exact decode_harm1 S s w hS hl hz h8 hm hb
        · have hm0 : may (toldI s) = false := by simpa using hm
          have hE := h1 hm0
          rw [hE, decR_no (by rw [hE]; omega)]
          exact decode_harm0 S s w hS hl hz h8 hm0
      · have hE : decE s = 4 := by unfold decE; rw [if_neg (by simp [hl]), if_neg hz, if_pos h8]
        rw [hE, decR_no (by rw [hE]; omega)]
        exact decode_torn S s w hS hl hz h8
  · have hE : decE s = 1 := by unfold decE; rw [if_pos hl]
    rw [hE, decR_no (by rw [hE]; omega)]
    exact decode_len S s w hS hl
end
end Go.Proofs.Ytnjlhallkgacjaa
