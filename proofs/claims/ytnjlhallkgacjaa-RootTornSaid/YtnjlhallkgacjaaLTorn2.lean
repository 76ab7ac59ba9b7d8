/- The law RootTorn returns true for any two roots and any place: over zeros a new one that may be. -/
import Derived.Test.YtnjlhallkgacjaaLTorn1
namespace Go.Proofs.Ytnjlhallkgacjaa
open Go.ChangeShapes Go.WideShapes Go.ChangeAt Go.RowKit
section
variable (w : World)
set_option maxRecDepth 20000 in
set_option maxHeartbeats 2000000 in
theorem torn_none_yes (now : Rt) (t : Int) (hm : Mays now) : Calls Try.prog 5 #[Rt.none_.val, now.val, .int .i64 t] w fun e w' => e = .returned (.bool true) ∧ Below w.heap.size w w' := by
  obtain ⟨Z, HZS⟩ : ∃ Z, Hid (strB zs128 = Z) := ⟨_, Lib.hid rfl⟩
  have HWAS : Rt.none_ = Rt.none_ ∨ Mays Rt.none_ := .inl rfl
  have HRM := Lib.hid (fun w => rmay_any now w)
  have HMN := Lib.hid (fun w => mine_any now w)
  rw [hm.may] at HRM
  have HEN := Lib.hid (fun w => encode_yes now w hm)
  have HCASE := Lib.hid (fun he tn htn => torn_cases (was := Rt.none_) (now := now) HWAS hm he (t := tn) htn)
  obtain ⟨FS, hFS⟩ : ∃ FS, strB (block now) = FS := ⟨_, rfl⟩
  have HFS : Hid (FS.size = 128 ∧ IsS FS (block now)) := Lib.hid ⟨by rw [← hFS, strB_size', block_len], by rw [← hFS]; exact IsS.mk_ _ (block_dig now)⟩
  rw [hFS] at HEN
  clear hFS
  have HOL : Hid ((oldB Rt.none_).length = 128) := Lib.hid (oldB_len _)
  have HOS : Hid (Z.size = 128 ∧ IsS Z (oldB Rt.none_)) := Lib.hid ⟨by rw [← HZS.out, strB_size']; rfl, by rw [← HZS.out, oldB_none]; exact IsS.mk_ _ zs_dig⟩
  obtain ⟨i0, hi, hz0, hz1, hz2⟩ := info_parts Try.info5
  have HI := Lib.hid hi
  have HZ0 := Lib.hid hz0
  have HZ1 := Lib.hid hz1
  have HZ2 := Lib.hid hz2
  clear hi hz0 hz1 hz2
  unfold Rt.val at *
  go_enter Try.func5, Try.ntmps5
  go_wp2_with (refine wpList_make_full _ rfl _ _ 45 rfl 0 5 i0 (.int .u8 0) 1 Try.underlying45 HI.out HZ0.out HZ1.out .i64 .i64 128 128 128 rfl rfl rfl rfl (by rw [HZ2.out]; omega) (by unfold maxLen; omega) (Nat.zero_le _) ?_)
  intro w2 hown hgrow
  have HT2 : Hid (TB w w2 Rt.none_ now) := Lib.hid ((TB.new w Rt.none_ now).more ((Below.refl _ _).grown hgrow (Nat.le_refl _) (fun k e => by cases e)))
  have hcv := zeros_conv hown
  clear hown hgrow HI HZ0 HZ1 HZ2
  rw [HZS.out] at hcv
  have k30 : w2.cell? ⟨w.heap.size, 0, none⟩ = some (.int .i64 0) := HT2.out.b3.c0
  have k31 : w2.cell? ⟨w.heap.size, 1, none⟩ = some (.int .i64 0) := HT2.out.b3.c1
  have k32 : w2.cell? ⟨w.heap.size, 2, none⟩ = some (.int .i64 0) := HT2.out.b3.c2
  have k33 : w2.cell? ⟨w.heap.size, 3, none⟩ = some (.int .i64 0) := HT2.out.b3.c3
  go_upto_region 7 with fail
  clear k30 k31 k32 k33
  have k40 := HT2.out.b4.c0
  have k41 := HT2.out.b4.c1
  have k42 := HT2.out.b4.c2
  have k43 := HT2.out.b4.c3
  go_wp2_with fail
  refine (HMN.out _).mono ?_
  rintro e w6 ⟨rfl, hb6⟩
  have HT6 := Lib.hid (HT2.out.more hb6)
  clear hb6 k40 k41 k42 k43 HT2
  go_wp2_with fail
  refine (HEN.out _).mono ?_
  rintro e w7 ⟨rfl, hb7⟩
  have HT7 := Lib.hid (HT6.out.more hb7)
  clear hb7 HT6
  have k30 := HT7.out.b3.c0
  have k31 := HT7.out.b3.c1
  have k32 := HT7.out.b3.c2
  have k33 := HT7.out.b3.c3
  have k40 := HT7.out.b4.c0
  have k41 := HT7.out.b4.c1
  have k42 := HT7.out.b4.c2
  have k43 := HT7.out.b4.c3
  have s1 : ((FS.size : Int) != 128) = false := by rw [HFS.out.1]; rfl
  have s2 : ((Z.size : Int) != 128) = false := by rw [HOS.out.1]; rfl
  have s3 : ((FS.size : Int) == 128) = true := by rw [HFS.out.1]; rfl
  have s4 : ((Z.size : Int) == 128) = true := by rw [HOS.out.1]; rfl
  by_cases hep : Rt.none_.ep = now.ep
  · have d1 : (Rt.none_.ep == now.ep) = true := by rw [beq_iff_eq]; exact hep
    clear hep
    go_wp2_with (first
      | (go_at_call 9; refine (HRM.out _).mono ?_; rintro e w8 ⟨rfl, hb8⟩; have HT8 := Lib.hid (HT7.out.more hb8); clear hb8)
      | (go_at_call 8; refine (lives_any _).mono ?_; rintro e w9 ⟨rfl, hb9⟩))
    go_ret
    exact ⟨rfl, Below.more HT8.out.below hb9 HT8.out.below.size⟩
  · have d1 : (Rt.none_.ep == now.ep) = false := by rw [beq_eq_false_iff_ne]; exact hep
    by_cases ht0 : t < 0
    · go_wp2_with (first
        | (go_at_call 9; refine (HRM.out _).mono ?_; rintro e w8 ⟨rfl, hb8⟩; have HT8 := Lib.hid (HT7.out.more hb8); clear hb8)
        | (go_at_call 8; refine (lives_any _).mono ?_; rintro e w9 ⟨rfl, hb9⟩))
      go_ret
      exact ⟨rfl, Below.more HT8.out.below hb9 HT8.out.below.size⟩
    · have d2 : decide (t < 0) = false := decide_eq_false ht0
      by_cases ht1 : 128 < t
      · go_wp2_with (first
          | (go_at_call 9; refine (HRM.out _).mono ?_; rintro e w8 ⟨rfl, hb8⟩; have HT8 := Lib.hid (HT7.out.more hb8); clear hb8)
          | (go_at_call 8; refine (lives_any _).mono ?_; rintro e w9 ⟨rfl, hb9⟩))
        go_ret
        exact ⟨rfl, Below.more HT8.out.below hb9 HT8.out.below.size⟩
      · have d3 : decide ((128 : Int) < t) = false := decide_eq_false ht1
        obtain ⟨tn, rfl⟩ := Int.eq_ofNat_of_zero_le (show 0 ≤ t by omega)
        have htn : tn ≤ 128 := by omega
        have HCS := Lib.hid (HCASE.out hep tn htn)
        have hM := ((HFS.out.2.ext 0 tn).app (HOS.out.2.ext tn 128))
        rw [List.drop_zero, Nat.sub_zero, List.take_of_length_le (show ((oldB Rt.none_).drop tn).length ≤ 128 - tn by rw [List.length_drop]; have := HOL.out; omega)] at hM
        have HDM := Lib.hid (fun w => decode_any _ _ w hM)
        rw [show (block now).take tn ++ (oldB Rt.none_).drop tn = tornB (block now) (oldB Rt.none_) tn from rfl] at HDM
        generalize decE (tornB (block now) (oldB Rt.none_) tn) = E at *
        generalize decR (tornB (block now) (oldB Rt.none_) tn) = x at *
        obtain ⟨X1, hx1⟩ : ∃ X, FS.extract 0 tn = X := ⟨_, rfl⟩
        obtain ⟨X2, hx2⟩ : ∃ X, Z.extract tn 128 = X := ⟨_, rfl⟩
        have z1 : X1.size ≤ 128 := by rw [← hx1, ByteArray.size_extract]; omega
        have z2 : X2.size ≤ 128 := by rw [← hx2, ByteArray.size_extract]; omega
        have hsz : ¬ 9223372036854775807 < X1.size + X2.size := by omega
        rw [hx1, hx2] at HDM
        have f1 := HFS.out.1
        have f2 := HOS.out.1
        have j0 : (0 : Int) ≤ (tn : Int) := by omega
        have j1 : (tn : Int) ≤ 128 := by omega
        clear hM z1 z2 ht0 ht1 htn s3 s4 HRM HMN HEN HCASE
        go_upto_region 10 with fail
        clear k30 k31 k32 k33 k40 k41 k42 k43 s1 s2 d2 d3
        go_cut [12, 13] (fun v12 v13 wx => ∃ q, v12 = .pointer (some ⟨q, 0, none⟩) ∧ v13 = .int .i64 E ∧ Hid (RtAt wx q 29 x ∧ TB w wx Rt.none_ now))
        case first =>
          unfold Rt.val at HDM
          refine wp_region_any (by kernel_rfl) ?_
          refine wpAny_take (i := 0) (v := .string FS) rfl (by kernel_rfl) (by kernel_rfl) (by kernel_rfl) (fun _ _ _ h => h) (Or.inl ⟨by kernel_rfl, fun w => by first | (go_simp; done) | (go_simp; rfl) | rfl⟩) ?_
          refine wpAny_take (i := 1) (v := .int .i64 (tn : Int)) rfl (by kernel_rfl) (by kernel_rfl) (by kernel_rfl) (fun _ _ _ h => h) (Or.inl ⟨by kernel_rfl, fun w => by first | (go_simp; done) | (go_simp; rfl) | rfl⟩) ?_
          refine wpAny_take (i := 2) (v := .string X1) rfl (by kernel_rfl) (by kernel_rfl) (by kernel_rfl) (fun _ _ _ h => h) (Or.inl ⟨by kernel_rfl, fun w => by first | (go_simp; done) | (go_simp; rfl) | rfl⟩) ?_
          refine wpAny_take (i := 3) (v := .string Z) rfl (by kernel_rfl) (by kernel_rfl) (by kernel_rfl) (fun _ _ _ h => h) (Or.inl ⟨by kernel_rfl, fun w => by first | (go_simp; done) | (go_simp; rfl) | rfl⟩) ?_
          refine wpAny_take (i := 4) (v := .int .i64 (tn : Int)) rfl (by kernel_rfl) (by kernel_rfl) (by kernel_rfl) (fun _ _ _ h => h) (Or.inl ⟨by kernel_rfl, fun w => by first | (go_simp; done) | (go_simp; rfl) | rfl⟩) ?_
          refine wpAny_take (i := 5) (v := .string X2) rfl (by kernel_rfl) (by kernel_rfl) (by kernel_rfl) (fun _ _ _ h => h) (Or.inl ⟨by kernel_rfl, fun w => by first | (go_simp; done) | (go_simp; rfl) | rfl⟩) ?_
          refine wpAny_take (i := 6) (v := .string (X1 ++ X2)) rfl (by kernel_rfl) (by kernel_rfl) (by kernel_rfl) (fun _ _ _ h => h) (Or.inl ⟨by kernel_rfl, fun w => by first | (go_simp; done) | (go_simp; rfl) | rfl⟩) ?_
          refine wpAny_ready (rs := [7, 11]) (by kernel_rfl) (by simp) ?_
          refine AllReady.cons rfl (fun K hK => ?_) (AllReady.cons rfl (fun K hK => ?_) (AllReady.nil))
          · go_simp
            refine (HDM.out _).mono ?_
            rintro e w8 ⟨rfl, hb8⟩
            go_simp
            refine hK _ _ ?_
            clear hK K
            refine wpAny_take (i := 8) (v := .tuple #[.agg #[.int .i64 x.ep, .int .i64 x.pg, .int .i64 x.dr, .int .i64 x.wd], .int .i64 E]) rfl (by kernel_rfl) (by kernel_rfl) (by kernel_rfl) (fun _ _ _ h => h) (Or.inl ⟨by kernel_rfl, fun w => by first | (go_simp; done) | (go_simp; rfl) | rfl⟩) ?_
            refine wpAny_take (i := 9) (v := .agg #[.int .i64 x.ep, .int .i64 x.pg, .int .i64 x.dr, .int .i64 x.wd]) rfl (by kernel_rfl) (by kernel_rfl) (by kernel_rfl) (fun _ _ _ h => h) (Or.inl ⟨by kernel_rfl, fun w => by first | (go_simp; done) | (go_simp; rfl) | rfl⟩) ?_
            refine wpAny_take (i := 10) (v := .int .i64 E) rfl (by kernel_rfl) (by kernel_rfl) (by kernel_rfl) (fun _ _ _ h => h) (Or.inl ⟨by kernel_rfl, fun w => by first | (go_simp; done) | (go_simp; rfl) | rfl⟩) ?_
            refine wpAny_ready (rs := [11]) (by kernel_rfl) (by simp) ?_
            refine AllReady.cons rfl (fun K hK => ?_) (AllReady.nil)
            go_simp
            refine hK _ _ ?_
            clear hK K
            refine wpAny_ready (rs := [12]) (by kernel_rfl) (by simp) ?_
            refine AllReady.cons rfl (fun K hK => ?_) (AllReady.nil)
            go_simp
            refine hK _ _ ?_
            clear hK K
            refine wpAny_ready (rs := [13]) (by kernel_rfl) (by simp) ?_
            refine AllReady.cons rfl (fun K hK => ?_) (AllReady.nil)
            go_simp
            refine hK _ _ ?_
            clear hK K
            refine wpAny_done (by kernel_rfl) ?_ _
            go_wp2_with fail
            go_meet
            exact ⟨_, rfl, rfl, Lib.hid (endA HT7.out hb8)⟩
          · go_simp
            refine hK _ _ ?_
            clear hK K
            refine wpAny_ready (rs := [7]) (by kernel_rfl) (by simp) ?_
            refine AllReady.cons rfl (fun K hK => ?_) (AllReady.nil)
            go_simp
            refine (HDM.out _).mono ?_
            rintro e w8 ⟨rfl, hb8⟩
            go_simp
            refine hK _ _ ?_
            clear hK K
            refine wpAny_take (i := 8) (v := .tuple #[.agg #[.int .i64 x.ep, .int .i64 x.pg, .int .i64 x.dr, .int .i64 x.wd], .int .i64 E]) rfl (by kernel_rfl) (by kernel_rfl) (by kernel_rfl) (fun _ _ _ h => h) (Or.inl ⟨by kernel_rfl, fun w => by first | (go_simp; done) | (go_simp; rfl) | rfl⟩) ?_
            refine wpAny_take (i := 9) (v := .agg #[.int .i64 x.ep, .int .i64 x.pg, .int .i64 x.dr, .int .i64 x.wd]) rfl (by kernel_rfl) (by kernel_rfl) (by kernel_rfl) (fun _ _ _ h => h) (Or.inl ⟨by kernel_rfl, fun w => by first | (go_simp; done) | (go_simp; rfl) | rfl⟩) ?_
            refine wpAny_take (i := 10) (v := .int .i64 E) rfl (by kernel_rfl) (by kernel_rfl) (by kernel_rfl) (fun _ _ _ h => h) (Or.inl ⟨by kernel_rfl, fun w => by first | (go_simp; done) | (go_simp; rfl) | rfl⟩) ?_
            refine wpAny_ready (rs := [12]) (by kernel_rfl) (by simp) ?_
            refine AllReady.cons rfl (fun K hK => ?_) (AllReady.nil)
            have k0 := (endB HT7.out hb8).1.c0
            have k1 := (endB HT7.out hb8).1.c1
            have k2 := (endB HT7.out hb8).1.c2
            have k3 := (endB HT7.out hb8).1.c3
            have kf := (endB HT7.out hb8).1.fz
            go_simp
            refine hK _ _ ?_
            clear hK K
            refine wpAny_ready (rs := [13]) (by kernel_rfl) (by simp) ?_
            refine AllReady.cons rfl (fun K hK => ?_) (AllReady.nil)
            go_simp
            refine hK _ _ ?_
            clear hK K
            refine wpAny_done (by kernel_rfl) ?_ _
            go_wp2_with fail
            go_meet
            exact ⟨_, rfl, rfl, Lib.hid (endB2 HT7.out hb8)⟩
        case rest =>
          obtain ⟨q, hv1, hv2, hc⟩ := hcut
          subst hv1 hv2
          have HXX := Lib.hid hc.out.1
          have HT := Lib.hid hc.out.2
          clear HT7 hc HDM
          have HTX := Lib.hid (fun w => theirs_any x w)
          unfold Rt.val at HTX
          have j2 : (0 : Int) ≤ (tn : Int) := j0
          rcases HCS.out with ⟨hE, h0, h1⟩ | ⟨hE, hz⟩ | ⟨hE, hR, h1⟩ | ⟨hE, hR, h0⟩
          · subst hE
            have a0 : (0 : Int) < (tn : Int) := by omega
            have a1 : (tn : Int) < 128 := by omega
            clear HCS h0 h1
            go_wp2_with (go_at_call 8; refine (lives_any _).mono ?_; rintro e w9 ⟨rfl, hb9⟩)
            go_ret
            exact ⟨rfl, Below.more HT.out.below hb9 HT.out.below.size⟩
          · subst hE
            have c30 : wc.cell? ⟨w.heap.size, 0, none⟩ = some (.int .i64 0) := HT.out.b3.c0
            have c31 : wc.cell? ⟨w.heap.size, 1, none⟩ = some (.int .i64 0) := HT.out.b3.c1
            have c32 : wc.cell? ⟨w.heap.size, 2, none⟩ = some (.int .i64 0) := HT.out.b3.c2
            have c33 : wc.cell? ⟨w.heap.size, 3, none⟩ = some (.int .i64 0) := HT.out.b3.c3
            clear HCS hz
            go_wp2_with (go_at_call 8; refine (lives_any _).mono ?_; rintro e w9 ⟨rfl, hb9⟩)
            go_ret
            exact ⟨rfl, Below.more HT.out.below hb9 HT.out.below.size⟩
          · have a1 : (tn : Int) < 128 := by omega
            subst hE
            have hR2 := hR.symm
            subst hR2
            clear HCS h1
            by_cases ht : 0 < tn
            · have a0 : (0 : Int) < (tn : Int) := by omega
              have a0n : decide (0 < tn) = true := decide_eq_true ht
              have a1n : decide (tn < 128) = true := decide_eq_true (by omega)
              clear ht
              go_upto_region 15 with fail
              have X1 := HXX.out
              have X2 := HT.out.b3
              have X3 := HT.out.b4
              have HBW := Lib.hid HT.out.below
              have lX10 : ∀ s : In wc, s.1.cell? ⟨q, 0, none⟩ = some (.int .i64 Rt.none_.ep) := fun s => (X1.below s.2).c0
              have lX11 : ∀ s : In wc, s.1.cell? ⟨q, 1, none⟩ = some (.int .i64 Rt.none_.pg) := fun s => (X1.below s.2).c1
              have lX12 : ∀ s : In wc, s.1.cell? ⟨q, 2, none⟩ = some (.int .i64 Rt.none_.dr) := fun s => (X1.below s.2).c2
              have lX13 : ∀ s : In wc, s.1.cell? ⟨q, 3, none⟩ = some (.int .i64 Rt.none_.wd) := fun s => (X1.below s.2).c3
              have lX20 : ∀ s : In wc, s.1.cell? ⟨w.heap.size, 0, none⟩ = some (.int .i64 Rt.none_.ep) := fun s => (X2.below s.2).c0
              have lX21 : ∀ s : In wc, s.1.cell? ⟨w.heap.size, 1, none⟩ = some (.int .i64 Rt.none_.pg) := fun s => (X2.below s.2).c1
              have lX22 : ∀ s : In wc, s.1.cell? ⟨w.heap.size, 2, none⟩ = some (.int .i64 Rt.none_.dr) := fun s => (X2.below s.2).c2
              have lX23 : ∀ s : In wc, s.1.cell? ⟨w.heap.size, 3, none⟩ = some (.int .i64 Rt.none_.wd) := fun s => (X2.below s.2).c3
              have lX30 : ∀ s : In wc, s.1.cell? ⟨(w.heap.size + 1), 0, none⟩ = some (.int .i64 now.ep) := fun s => (X3.below s.2).c0
              have lX31 : ∀ s : In wc, s.1.cell? ⟨(w.heap.size + 1), 1, none⟩ = some (.int .i64 now.pg) := fun s => (X3.below s.2).c1
              have lX32 : ∀ s : In wc, s.1.cell? ⟨(w.heap.size + 1), 2, none⟩ = some (.int .i64 now.dr) := fun s => (X3.below s.2).c2
              have lX33 : ∀ s : In wc, s.1.cell? ⟨(w.heap.size + 1), 3, none⟩ = some (.int .i64 now.wd) := fun s => (X3.below s.2).c3
              clear X1 X2 X3 HT HXX
              have hne := In.some wc
              refine region_in wc (by kernel_rfl) (by kernel_rfl) (Below.refl _ _) ?_
              repeat (go_big_quiet_step ((first
                | (go_at_call 17; exact Calls.quiet_in (HTX.out _))
                | (go_at_call 8; exact Calls.quiet_in (lives_any _)))))
              refine wpQuiet_nil ?_
              intro w12 hw'
              have hb12 : Below wc.heap.size wc w12 := by
                obtain ⟨⟨wz, hbz⟩, hw''⟩ := hw'
                subst hw''
                exact hbz
              clear hw'
              go_wp2_with fail
              go_ret
              exact ⟨rfl, Below.more HBW.out hb12 HBW.out.size⟩
            · have a0 : decide ((0 : Int) < (tn : Int)) = false := decide_eq_false (by omega)
              have a0n : decide (0 < tn) = false := decide_eq_false ht
              have a1n : decide (tn < 128) = true := decide_eq_true (by omega)
              clear ht
              go_upto_region 15 with fail
              have X1 := HXX.out
              have X2 := HT.out.b3
              have X3 := HT.out.b4
              have HBW := Lib.hid HT.out.below
              have lX10 : ∀ s : In wc, s.1.cell? ⟨q, 0, none⟩ = some (.int .i64 Rt.none_.ep) := fun s => (X1.below s.2).c0
              have lX11 : ∀ s : In wc, s.1.cell? ⟨q, 1, none⟩ = some (.int .i64 Rt.none_.pg) := fun s => (X1.below s.2).c1
              have lX12 : ∀ s : In wc, s.1.cell? ⟨q, 2, none⟩ = some (.int .i64 Rt.none_.dr) := fun s => (X1.below s.2).c2
              have lX13 : ∀ s : In wc, s.1.cell? ⟨q, 3, none⟩ = some (.int .i64 Rt.none_.wd) := fun s => (X1.below s.2).c3
              have lX20 : ∀ s : In wc, s.1.cell? ⟨w.heap.size, 0, none⟩ = some (.int .i64 Rt.none_.ep) := fun s => (X2.below s.2).c0
              have lX21 : ∀ s : In wc, s.1.cell? ⟨w.heap.size, 1, none⟩ = some (.int .i64 Rt.none_.pg) := fun s => (X2.below s.2).c1
              have lX22 : ∀ s : In wc, s.1.cell? ⟨w.heap.size, 2, none⟩ = some (.int .i64 Rt.none_.dr) := fun s => (X2.below s.2).c2
              have lX23 : ∀ s : In wc, s.1.cell? ⟨w.heap.size, 3, none⟩ = some (.int .i64 Rt.none_.wd) := fun s => (X2.below s.2).c3
              have lX30 : ∀ s : In wc, s.1.cell? ⟨(w.heap.size + 1), 0, none⟩ = some (.int .i64 now.ep) := fun s => (X3.below s.2).c0
              have lX31 : ∀ s : In wc, s.1.cell? ⟨(w.heap.size + 1), 1, none⟩ = some (.int .i64 now.pg) := fun s => (X3.below s.2).c1
              have lX32 : ∀ s : In wc, s.1.cell? ⟨(w.heap.size + 1), 2, none⟩ = some (.int .i64 now.dr) := fun s => (X3.below s.2).c2
              have lX33 : ∀ s : In wc, s.1.cell? ⟨(w.heap.size + 1), 3, none⟩ = some (.int .i64 now.wd) := fun s => (X3.below s.2).c3
              clear X1 X2 X3 HT HXX
              have hne := In.some wc
              refine region_in wc (by kernel_rfl) (by kernel_rfl) (Below.refl _ _) ?_
              repeat (go_big_quiet_step ((first
                | (go_at_call 17; exact Calls.quiet_in (HTX.out _))
                | (go_at_call 8; exact Calls.quiet_in (lives_any _)))))
              refine wpQuiet_nil ?_
              intro w12 hw'
              have hb12 : Below wc.heap.size wc w12 := by
                obtain ⟨⟨wz, hbz⟩, hw''⟩ := hw'
                subst hw''
                exact hbz
              clear hw'
              go_wp2_with fail
              go_ret
              exact ⟨rfl, Below.more HBW.out hb12 HBW.out.size⟩
          · have a0 : (0 : Int) < (tn : Int) := by omega
            have d2 : ¬ now.ep = Rt.none_.ep := fun h => by rw [h] at d1; simp at d1
            subst hE
            have hR2 := hR.symm
            subst hR2
            clear HCS h0
            by_cases ht : tn < 128
            · have a1 : (tn : Int) < 128 := by omega
              have a0n : decide (0 < tn) = true := decide_eq_true (by omega)
              have a1n : decide (tn < 128) = true := decide_eq_true ht
              clear ht
              go_upto_region 15 with fail
              have X1 := HXX.out
              have X2 := HT.out.b3
              have X3 := HT.out.b4
              have HBW := Lib.hid HT.out.below
              have lX10 : ∀ s : In wc, s.1.cell? ⟨q, 0, none⟩ = some (.int .i64 now.ep) := fun s => (X1.below s.2).c0
              have lX11 : ∀ s : In wc, s.1.cell? ⟨q, 1, none⟩ = some (.int .i64 now.pg) := fun s => (X1.below s.2).c1
              have lX12 : ∀ s : In wc, s.1.cell? ⟨q, 2, none⟩ = some (.int .i64 now.dr) := fun s => (X1.below s.2).c2
              have lX13 : ∀ s : In wc, s.1.cell? ⟨q, 3, none⟩ = some (.int .i64 now.wd) := fun s => (X1.below s.2).c3
              have lX20 : ∀ s : In wc, s.1.cell? ⟨w.heap.size, 0, none⟩ = some (.int .i64 Rt.none_.ep) := fun s => (X2.below s.2).c0
              have lX21 : ∀ s : In wc, s.1.cell? ⟨w.heap.size, 1, none⟩ = some (.int .i64 Rt.none_.pg) := fun s => (X2.below s.2).c1
              have lX22 : ∀ s : In wc, s.1.cell? ⟨w.heap.size, 2, none⟩ = some (.int .i64 Rt.none_.dr) := fun s => (X2.below s.2).c2
              have lX23 : ∀ s : In wc, s.1.cell? ⟨w.heap.size, 3, none⟩ = some (.int .i64 Rt.none_.wd) := fun s => (X2.below s.2).c3
              have lX30 : ∀ s : In wc, s.1.cell? ⟨(w.heap.size + 1), 0, none⟩ = some (.int .i64 now.ep) := fun s => (X3.below s.2).c0
              have lX31 : ∀ s : In wc, s.1.cell? ⟨(w.heap.size + 1), 1, none⟩ = some (.int .i64 now.pg) := fun s => (X3.below s.2).c1
              have lX32 : ∀ s : In wc, s.1.cell? ⟨(w.heap.size + 1), 2, none⟩ = some (.int .i64 now.dr) := fun s => (X3.below s.2).c2
              have lX33 : ∀ s : In wc, s.1.cell? ⟨(w.heap.size + 1), 3, none⟩ = some (.int .i64 now.wd) := fun s => (X3.below s.2).c3
              clear X1 X2 X3 HT HXX
              have hne := In.some wc
              refine region_in wc (by kernel_rfl) (by kernel_rfl) (Below.refl _ _) ?_
              repeat (go_big_quiet_step ((first
                | (go_at_call 17; exact Calls.quiet_in (HTX.out _))
                | (go_at_call 8; exact Calls.quiet_in (lives_any _)))))
              refine wpQuiet_nil ?_
              intro w12 hw'
              have hb12 : Below wc.heap.size wc w12 := by
                obtain ⟨⟨wz, hbz⟩, hw''⟩ := hw'
                subst hw''
                exact hbz
              clear hw'
              go_wp2_with fail
              go_ret
              exact ⟨rfl, Below.more HBW.out hb12 HBW.out.size⟩
            · have a1 : decide ((tn : Int) < 128) = false := decide_eq_false (by omega)
              have a0n : decide (0 < tn) = true := decide_eq_true (by omega)
              have a1n : decide (tn < 128) = false := decide_eq_false ht
              clear ht
              go_upto_region 15 with fail
              have X1 := HXX.out
              have X2 := HT.out.b3
              have X3 := HT.out.b4
              have HBW := Lib.hid HT.out.below
              have lX10 : ∀ s : In wc, s.1.cell? ⟨q, 0, none⟩ = some (.int .i64 now.ep) := fun s => (X1.below s.2).c0
              have lX11 : ∀ s : In wc, s.1.cell? ⟨q, 1, none⟩ = some (.int .i64 now.pg) := fun s => (X1.below s.2).c1
              have lX12 : ∀ s : In wc, s.1.cell? ⟨q, 2, none⟩ = some (.int .i64 now.dr) := fun s => (X1.below s.2).c2
              have lX13 : ∀ s : In wc, s.1.cell? ⟨q, 3, none⟩ = some (.int .i64 now.wd) := fun s => (X1.below s.2).c3
              have lX20 : ∀ s : In wc, s.1.cell? ⟨w.heap.size, 0, none⟩ = some (.int .i64 Rt.none_.ep) := fun s => (X2.below s.2).c0
              have lX21 : ∀ s : In wc, s.1.cell? ⟨w.heap.size, 1, none⟩ = some (.int .i64 Rt.none_.pg) := fun s => (X2.below s.2).c1
              have lX22 : ∀ s : In wc, s.1.cell? ⟨w.heap.size, 2, none⟩ = some (.int .i64 Rt.none_.dr) := fun s => (X2.below s.2).c2
              have lX23 : ∀ s : In wc, s.1.cell? ⟨w.heap.size, 3, none⟩ = some (.int .i64 Rt.none_.wd) := fun s => (X2.below s.2).c3
              have lX30 : ∀ s : In wc, s.1.cell? ⟨(w.heap.size + 1), 0, none⟩ = some (.int .i64 now.ep) := fun s => (X3.below s.2).c0
              have lX31 : ∀ s : In wc, s.1.cell? ⟨(w.heap.size + 1), 1, none⟩ = some (.int .i64 now.pg) := fun s => (X3.below s.2).c1
              have lX32 : ∀ s : In wc, s.1.cell? ⟨(w.heap.size + 1), 2, none⟩ = some (.int .i64 now.dr) := fun s => (X3.below s.2).c2
              have lX33 : ∀ s : In wc, s.1.cell? ⟨(w.heap.size + 1), 3, none⟩ = some (.int .i64 now.wd) := fun s => (X3.below s.2).c3
              clear X1 X2 X3 HT HXX
              have hne := In.some wc
              refine region_in wc (by kernel_rfl) (by kernel_rfl) (Below.refl _ _) ?_
              repeat (go_big_quiet_step ((first
                | (go_at_call 17; exact Calls.quiet_in (HTX.out _))
                | (go_at_call 8; exact Calls.quiet_in (lives_any _)))))
              refine wpQuiet_nil ?_
              intro w12 hw'
              have hb12 : Below wc.heap.size wc w12 := by
                obtain ⟨⟨wz, hbz⟩, hw''⟩ := hw'
                subst hw''
                exact hbz
              clear hw'
              go_wp2_with fail
              go_ret
              exact ⟨rfl, Below.more HBW.out hb12 HBW.out.size⟩
end
end Go.Proofs.Ytnjlhallkgacjaa
