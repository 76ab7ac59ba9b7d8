/- The law RootBlocks returns true for any root and any string. -/
import Derived.Test.YtnjlhallkgacjaaLNew
namespace Go.Proofs.Ytnjlhallkgacjaa
open Go.ChangeShapes Go.WideShapes Go.ChangeAt Go.RowKit

theorem alloc_below (u : World) (o : Obj) : Below u.heap.size u (u.alloc o) := (Below.refl _ _).alloc (Nat.le_refl _) _
theorem Below.more {B : Nat} {w a b : World} (h : Below B w a) (k : Below a.heap.size a b) (hB : B ≤ a.heap.size) : Below B w b := h.trans (Below.mono k hB)
section
variable (S : ByteArray) (w : World)
set_option maxHeartbeats 400000 in
theorem blocks_long (r : Rt) (h : 1000 < S.size) : Calls Try.prog 3 #[r.val, .string S] w fun e w' => e = .returned (.bool true) ∧ Below w.heap.size w w' := by
  have hd : (1000 : Int) < (S.size : Int) := by omega
  unfold Rt.val
  clear h
  go_enter Try.func3, Try.ntmps3
  go_wp2_with fail
  refine (lives_any _).mono ?_
  rintro e w7 ⟨rfl, hb7⟩
  go_wp2_with fail
  go_ret
  exact ⟨rfl, Below.more (alloc_below _ _) hb7 (by simp)⟩
set_option maxHeartbeats 3200000 in
theorem blocks_bad (s : List Nat) (hS : IsS S s) (r : Rt) (HM : may r = false) (hs : ¬ 1000 < S.size) : Calls Try.prog 3 #[r.val, .string S] w fun e w' => e = .returned (.bool true) ∧ Below w.heap.size w w' := by
  have hd : decide ((1000 : Int) < (S.size : Int)) = false := decide_eq_false (by omega)
  have HENC := Lib.hid (fun w => encode_no r w HM)
  clear hs
  have HMAY := Lib.hid (fun w => rmay_any r w)
  have HMY := Lib.hid (fun w => may_any r w)
  have HMI := Lib.hid (fun w => mine_any r w)
  have HDE := Lib.hid (fun w => decode_any S s w hS)
  have HRD := Lib.hid (fun w => rdecode_any S s w hS)
  have HPL := Lib.hid (fun w => place_any r.ep w)
  have HRP := Lib.hid (fun w => rplace_any r.ep w)
  rw [HM] at HMAY HMY
  clear hS
  generalize decR s = x at *
  generalize decE s = E at *
  generalize place r.ep = P at *
  have HTH := Lib.hid (fun w => theirs_any x w)
  have HR0 := Lib.hid (RtAt.new w r 23)
  have HB0 := Lib.hid (alloc_below w (.cells #[.int .i64 r.ep, .int .i64 r.pg, .int .i64 r.dr, .int .i64 r.wd] 23))
  unfold Rt.val at *
  go_enter Try.func3, Try.ntmps3
  go_upto_region 3 with fail
  generalize w.alloc (.cells #[.int .i64 r.ep, .int .i64 r.pg, .int .i64 r.dr, .int .i64 r.wd] 23) = w1 at *
  have r0 := HR0.out.c0
  have r1 := HR0.out.c1
  have r2 := HR0.out.c2
  have r3 := HR0.out.c3
  go_wp2_with fail
  refine (HMAY.out _).mono ?_
  rintro e w2 ⟨rfl, hb⟩
  have HR2 := Lib.hid (HR0.out.below hb)
  have HB2 := Lib.hid (Below.more HB0.out hb HB0.out.size)
  clear hb r0 r1 r2 r3 HR0 HB0 HMAY
  have r0 := HR2.out.c0
  have r1 := HR2.out.c1
  have r2 := HR2.out.c2
  have r3 := HR2.out.c3
  go_wp2_with fail
  refine (HMI.out _).mono ?_
  rintro e w3 ⟨rfl, hb⟩
  have HR3 := Lib.hid (HR2.out.below hb)
  have HB3 := Lib.hid (Below.more HB2.out hb HB2.out.size)
  clear hb r0 r1 r2 r3 HR2 HB2
  go_wp2_with fail
  refine (HENC.out _).mono ?_
  rintro e w4 ⟨rfl, hb⟩
  have HR4 := Lib.hid (HR3.out.below hb)
  have HB4 := Lib.hid (Below.more HB3.out hb HB3.out.size)
  clear hb HR3 HB3 HENC
  go_wp2_with fail
  refine (HDE.out _).mono ?_
  rintro e w5 ⟨rfl, hb⟩
  have HR5 := Lib.hid (HR4.out.below hb)
  have HB5 := Lib.hid (Below.more HB4.out hb HB4.out.size)
  clear hb HR4 HB4 HDE
  go_upto_region 6 with fail
  have HX6 := Lib.hid (RtAt.new w5 x 29)
  have HR6 := Lib.hid (HR5.out.below (alloc_below w5 (.cells #[.int .i64 x.ep, .int .i64 x.pg, .int .i64 x.dr, .int .i64 x.wd] 29)))
  have HB6 := Lib.hid (Below.more HB5.out (alloc_below w5 (.cells #[.int .i64 x.ep, .int .i64 x.pg, .int .i64 x.dr, .int .i64 x.wd] 29)) HB5.out.size)
  clear HR5 HB5
  generalize w5.alloc (.cells #[.int .i64 x.ep, .int .i64 x.pg, .int .i64 x.dr, .int .i64 x.wd] 29) = w6 at *
  generalize w5.heap.size = q8 at *
  go_wp2_with fail
  refine (HRD.out _).mono ?_
  rintro e w7 ⟨rfl, hb⟩
  have HR7 := Lib.hid (HR6.out.below hb)
  have HX7 := Lib.hid (HX6.out.below hb)
  have HB7 := Lib.hid (Below.more HB6.out hb HB6.out.size)
  clear hb HR6 HB6 HX6 HRD
  go_upto_region 7 with fail
  have X3 := RtAt.new w7 x 23
  have X1 := HR7.out.below (alloc_below w7 (.cells #[.int .i64 x.ep, .int .i64 x.pg, .int .i64 x.dr, .int .i64 x.wd] 23))
  have X2 := HX7.out.below (alloc_below w7 (.cells #[.int .i64 x.ep, .int .i64 x.pg, .int .i64 x.dr, .int .i64 x.wd] 23))
  have HB8 := Lib.hid (Below.more HB7.out (alloc_below w7 (.cells #[.int .i64 x.ep, .int .i64 x.pg, .int .i64 x.dr, .int .i64 x.wd] 23)) HB7.out.size)
  clear HR7 HX7 HB7
  generalize w7.alloc (.cells #[.int .i64 x.ep, .int .i64 x.pg, .int .i64 x.dr, .int .i64 x.wd] 23) = w8 at *
  generalize w7.heap.size = q10 at *
  have lX10 : ∀ s : In w8, s.1.cell? ⟨w.heap.size, 0, none⟩ = some (.int .i64 r.ep) := fun s => (X1.below s.2).c0
  have lX11 : ∀ s : In w8, s.1.cell? ⟨w.heap.size, 1, none⟩ = some (.int .i64 r.pg) := fun s => (X1.below s.2).c1
  have lX12 : ∀ s : In w8, s.1.cell? ⟨w.heap.size, 2, none⟩ = some (.int .i64 r.dr) := fun s => (X1.below s.2).c2
  have lX13 : ∀ s : In w8, s.1.cell? ⟨w.heap.size, 3, none⟩ = some (.int .i64 r.wd) := fun s => (X1.below s.2).c3
  have lX20 : ∀ s : In w8, s.1.cell? ⟨q8, 0, none⟩ = some (.int .i64 x.ep) := fun s => (X2.below s.2).c0
  have lX21 : ∀ s : In w8, s.1.cell? ⟨q8, 1, none⟩ = some (.int .i64 x.pg) := fun s => (X2.below s.2).c1
  have lX22 : ∀ s : In w8, s.1.cell? ⟨q8, 2, none⟩ = some (.int .i64 x.dr) := fun s => (X2.below s.2).c2
  have lX23 : ∀ s : In w8, s.1.cell? ⟨q8, 3, none⟩ = some (.int .i64 x.wd) := fun s => (X2.below s.2).c3
  have lX30 : ∀ s : In w8, s.1.cell? ⟨q10, 0, none⟩ = some (.int .i64 x.ep) := fun s => (X3.below s.2).c0
  have lX31 : ∀ s : In w8, s.1.cell? ⟨q10, 1, none⟩ = some (.int .i64 x.pg) := fun s => (X3.below s.2).c1
  have lX32 : ∀ s : In w8, s.1.cell? ⟨q10, 2, none⟩ = some (.int .i64 x.dr) := fun s => (X3.below s.2).c2
  have lX33 : ∀ s : In w8, s.1.cell? ⟨q10, 3, none⟩ = some (.int .i64 x.wd) := fun s => (X3.below s.2).c3
  have HR8 := Lib.hid X1
  clear X1 X2 X3
  have hne := In.some w8
  refine region_in w8 (by kernel_rfl) (by kernel_rfl) (Below.refl _ _) ?_
  repeat (go_big_quiet_step (fail))
  go_big_quiet_step ((go_at_call 11; exact Calls.quiet_in (HMI.out _)))
  repeat (go_big_quiet_step (fail))
  go_big_quiet_step ((go_at_call 14; exact Calls.quiet_in (HMY.out _)))
  repeat (go_big_quiet_step (fail))
  go_big_quiet_step ((go_at_call 15; exact Calls.quiet_in_same (HPL.out _)))
  repeat (go_big_quiet_step (fail))
  go_big_quiet_step ((go_at_call 16; exact Calls.quiet_in_same (HRP.out _)))
  repeat (go_big_quiet_step (fail))
  go_big_quiet_step ((go_at_call 17; exact Calls.quiet_in (HTH.out _)))
  repeat (go_big_quiet_step (fail))
  refine wpQuiet_nil ?_
  intro w9 hw'
  have hb9 : Below w8.heap.size w8 w9 := by
    obtain ⟨⟨wz, hbz⟩, hw''⟩ := hw'
    subst hw''
    exact hbz
  have HR9 := Lib.hid (HR8.out.below hb9)
  have HB9 := Lib.hid (Below.more HB8.out hb9 HB8.out.size)
  clear hw' hb9 hne HR8 HB8 lX10 lX11 lX12 lX13 lX20 lX21 lX22 lX23 lX30 lX31 lX32 lX33
  go_wp2_with (go_at_call 8; refine (lives_any _).mono ?_; rintro e w10 ⟨rfl, hb⟩)
  go_ret
  exact ⟨rfl, Below.more HB9.out hb HB9.out.size⟩
set_option maxHeartbeats 3200000 in
theorem blocks_good (s : List Nat) (hS : IsS S s) (r : Rt) (hm : Mays r) (hs : ¬ 1000 < S.size) : Calls Try.prog 3 #[r.val, .string S] w fun e w' => e = .returned (.bool true) ∧ Below w.heap.size w w' := by
  have hd : decide ((1000 : Int) < (S.size : Int)) = false := decide_eq_false (by omega)
  have HM := hm.may
  have HENC := Lib.hid (fun w => encode_yes r w hm)
  have HBL := Lib.hid (fun w => block_any r w hm)
  have HDB := Lib.hid (fun w => decode_any (strB (block r)) (block r) w (IsS.mk_ _ (block_dig r)))
  rw [decE_block hm, decR_block hm] at HDB
  generalize strB (block r) = BS at *
  have HTR := Lib.hid (fun w => theirs_any r w)
  clear hs
  have HMAY := Lib.hid (fun w => rmay_any r w)
  have HMY := Lib.hid (fun w => may_any r w)
  have HMI := Lib.hid (fun w => mine_any r w)
  have HDE := Lib.hid (fun w => decode_any S s w hS)
  have HRD := Lib.hid (fun w => rdecode_any S s w hS)
  have HPL := Lib.hid (fun w => place_any r.ep w)
  have HRP := Lib.hid (fun w => rplace_any r.ep w)
  rw [HM] at HMAY HMY
  clear hS
  generalize decR s = x at *
  generalize decE s = E at *
  generalize place r.ep = P at *
  have HTH := Lib.hid (fun w => theirs_any x w)
  have HR0 := Lib.hid (RtAt.new w r 23)
  have HB0 := Lib.hid (alloc_below w (.cells #[.int .i64 r.ep, .int .i64 r.pg, .int .i64 r.dr, .int .i64 r.wd] 23))
  unfold Rt.val at *
  go_enter Try.func3, Try.ntmps3
  go_upto_region 3 with fail
  generalize w.alloc (.cells #[.int .i64 r.ep, .int .i64 r.pg, .int .i64 r.dr, .int .i64 r.wd] 23) = w1 at *
  have r0 := HR0.out.c0
  have r1 := HR0.out.c1
  have r2 := HR0.out.c2
  have r3 := HR0.out.c3
  go_wp2_with fail
  refine (HMAY.out _).mono ?_
  rintro e w2 ⟨rfl, hb⟩
  have HR2 := Lib.hid (HR0.out.below hb)
  have HB2 := Lib.hid (Below.more HB0.out hb HB0.out.size)
  clear hb r0 r1 r2 r3 HR0 HB0 HMAY
  have r0 := HR2.out.c0
  have r1 := HR2.out.c1
  have r2 := HR2.out.c2
  have r3 := HR2.out.c3
  go_wp2_with fail
  refine (HMI.out _).mono ?_
  rintro e w3 ⟨rfl, hb⟩
  have HR3 := Lib.hid (HR2.out.below hb)
  have HB3 := Lib.hid (Below.more HB2.out hb HB2.out.size)
  clear hb r0 r1 r2 r3 HR2 HB2
  go_wp2_with fail
  refine (HENC.out _).mono ?_
  rintro e w4 ⟨rfl, hb⟩
  have HR4 := Lib.hid (HR3.out.below hb)
  have HB4 := Lib.hid (Below.more HB3.out hb HB3.out.size)
  clear hb HR3 HB3 HENC
  go_wp2_with fail
  refine (HDE.out _).mono ?_
  rintro e w5 ⟨rfl, hb⟩
  have HR5 := Lib.hid (HR4.out.below hb)
  have HB5 := Lib.hid (Below.more HB4.out hb HB4.out.size)
  clear hb HR4 HB4 HDE
  go_upto_region 6 with fail
  have HX6 := Lib.hid (RtAt.new w5 x 29)
  have HR6 := Lib.hid (HR5.out.below (alloc_below w5 (.cells #[.int .i64 x.ep, .int .i64 x.pg, .int .i64 x.dr, .int .i64 x.wd] 29)))
  have HB6 := Lib.hid (Below.more HB5.out (alloc_below w5 (.cells #[.int .i64 x.ep, .int .i64 x.pg, .int .i64 x.dr, .int .i64 x.wd] 29)) HB5.out.size)
  clear HR5 HB5
  generalize w5.alloc (.cells #[.int .i64 x.ep, .int .i64 x.pg, .int .i64 x.dr, .int .i64 x.wd] 29) = w6 at *
  generalize w5.heap.size = q8 at *
  go_wp2_with fail
  refine (HRD.out _).mono ?_
  rintro e w7 ⟨rfl, hb⟩
  have HR7 := Lib.hid (HR6.out.below hb)
  have HX7 := Lib.hid (HX6.out.below hb)
  have HB7 := Lib.hid (Below.more HB6.out hb HB6.out.size)
  clear hb HR6 HB6 HX6 HRD
  go_upto_region 7 with fail
  have X3 := RtAt.new w7 x 23
  have X1 := HR7.out.below (alloc_below w7 (.cells #[.int .i64 x.ep, .int .i64 x.pg, .int .i64 x.dr, .int .i64 x.wd] 23))
  have X2 := HX7.out.below (alloc_below w7 (.cells #[.int .i64 x.ep, .int .i64 x.pg, .int .i64 x.dr, .int .i64 x.wd] 23))
  have HB8 := Lib.hid (Below.more HB7.out (alloc_below w7 (.cells #[.int .i64 x.ep, .int .i64 x.pg, .int .i64 x.dr, .int .i64 x.wd] 23)) HB7.out.size)
  clear HR7 HX7 HB7
  generalize w7.alloc (.cells #[.int .i64 x.ep, .int .i64 x.pg, .int .i64 x.dr, .int .i64 x.wd] 23) = w8 at *
  generalize w7.heap.size = q10 at *
  have lX10 : ∀ s : In w8, s.1.cell? ⟨w.heap.size, 0, none⟩ = some (.int .i64 r.ep) := fun s => (X1.below s.2).c0
  have lX11 : ∀ s : In w8, s.1.cell? ⟨w.heap.size, 1, none⟩ = some (.int .i64 r.pg) := fun s => (X1.below s.2).c1
  have lX12 : ∀ s : In w8, s.1.cell? ⟨w.heap.size, 2, none⟩ = some (.int .i64 r.dr) := fun s => (X1.below s.2).c2
  have lX13 : ∀ s : In w8, s.1.cell? ⟨w.heap.size, 3, none⟩ = some (.int .i64 r.wd) := fun s => (X1.below s.2).c3
  have lX20 : ∀ s : In w8, s.1.cell? ⟨q8, 0, none⟩ = some (.int .i64 x.ep) := fun s => (X2.below s.2).c0
  have lX21 : ∀ s : In w8, s.1.cell? ⟨q8, 1, none⟩ = some (.int .i64 x.pg) := fun s => (X2.below s.2).c1
  have lX22 : ∀ s : In w8, s.1.cell? ⟨q8, 2, none⟩ = some (.int .i64 x.dr) := fun s => (X2.below s.2).c2
  have lX23 : ∀ s : In w8, s.1.cell? ⟨q8, 3, none⟩ = some (.int .i64 x.wd) := fun s => (X2.below s.2).c3
  have lX30 : ∀ s : In w8, s.1.cell? ⟨q10, 0, none⟩ = some (.int .i64 x.ep) := fun s => (X3.below s.2).c0
  have lX31 : ∀ s : In w8, s.1.cell? ⟨q10, 1, none⟩ = some (.int .i64 x.pg) := fun s => (X3.below s.2).c1
  have lX32 : ∀ s : In w8, s.1.cell? ⟨q10, 2, none⟩ = some (.int .i64 x.dr) := fun s => (X3.below s.2).c2
  have lX33 : ∀ s : In w8, s.1.cell? ⟨q10, 3, none⟩ = some (.int .i64 x.wd) := fun s => (X3.below s.2).c3
  have HR8 := Lib.hid X1
  clear X1 X2 X3
  have hne := In.some w8
  refine region_in w8 (by kernel_rfl) (by kernel_rfl) (Below.refl _ _) ?_
  repeat (go_big_quiet_step (fail))
  go_big_quiet_step ((go_at_call 11; exact Calls.quiet_in (HMI.out _)))
  repeat (go_big_quiet_step (fail))
  go_big_quiet_step ((go_at_call 14; exact Calls.quiet_in (HMY.out _)))
  repeat (go_big_quiet_step (fail))
  go_big_quiet_step ((go_at_call 15; exact Calls.quiet_in_same (HPL.out _)))
  repeat (go_big_quiet_step (fail))
  go_big_quiet_step ((go_at_call 16; exact Calls.quiet_in_same (HRP.out _)))
  repeat (go_big_quiet_step (fail))
  go_big_quiet_step ((go_at_call 17; exact Calls.quiet_in (HTH.out _)))
  repeat (go_big_quiet_step (fail))
  refine wpQuiet_nil ?_
  intro w9 hw'
  have hb9 : Below w8.heap.size w8 w9 := by
    obtain ⟨⟨wz, hbz⟩, hw''⟩ := hw'
    subst hw''
    exact hbz
  have HR9 := Lib.hid (HR8.out.below hb9)
  have HB9 := Lib.hid (Below.more HB8.out hb9 HB8.out.size)
  clear hw' hb9 hne HR8 HB8 lX10 lX11 lX12 lX13 lX20 lX21 lX22 lX23 lX30 lX31 lX32 lX33
  go_wp2_with fail
  refine (HDB.out _).mono ?_
  rintro e w10 ⟨rfl, hb⟩
  have HR10 := Lib.hid (HR9.out.below hb)
  have HB10 := Lib.hid (Below.more HB9.out hb HB9.out.size)
  clear hb HR9 HB9 HDB
  go_upto_region 12 with fail
  have X2 := RtAt.new w10 r 29
  have X1 := HR10.out.below (alloc_below w10 (.cells #[.int .i64 r.ep, .int .i64 r.pg, .int .i64 r.dr, .int .i64 r.wd] 29))
  have HB11 := Lib.hid (Below.more HB10.out (alloc_below w10 (.cells #[.int .i64 r.ep, .int .i64 r.pg, .int .i64 r.dr, .int .i64 r.wd] 29)) HB10.out.size)
  clear HR10 HB10
  generalize w10.alloc (.cells #[.int .i64 r.ep, .int .i64 r.pg, .int .i64 r.dr, .int .i64 r.wd] 29) = w11 at *
  generalize w10.heap.size = q12 at *
  have lX10 : ∀ s : In w11, s.1.cell? ⟨w.heap.size, 0, none⟩ = some (.int .i64 r.ep) := fun s => (X1.below s.2).c0
  have lX11 : ∀ s : In w11, s.1.cell? ⟨w.heap.size, 1, none⟩ = some (.int .i64 r.pg) := fun s => (X1.below s.2).c1
  have lX12 : ∀ s : In w11, s.1.cell? ⟨w.heap.size, 2, none⟩ = some (.int .i64 r.dr) := fun s => (X1.below s.2).c2
  have lX13 : ∀ s : In w11, s.1.cell? ⟨w.heap.size, 3, none⟩ = some (.int .i64 r.wd) := fun s => (X1.below s.2).c3
  have lX20 : ∀ s : In w11, s.1.cell? ⟨q12, 0, none⟩ = some (.int .i64 r.ep) := fun s => (X2.below s.2).c0
  have lX21 : ∀ s : In w11, s.1.cell? ⟨q12, 1, none⟩ = some (.int .i64 r.pg) := fun s => (X2.below s.2).c1
  have lX22 : ∀ s : In w11, s.1.cell? ⟨q12, 2, none⟩ = some (.int .i64 r.dr) := fun s => (X2.below s.2).c2
  have lX23 : ∀ s : In w11, s.1.cell? ⟨q12, 3, none⟩ = some (.int .i64 r.wd) := fun s => (X2.below s.2).c3
  clear X1 X2
  have hne := In.some w11
  refine region_in w11 (by kernel_rfl) (by kernel_rfl) (Below.refl _ _) ?_
  repeat (go_big_quiet_step (fail))
  go_big_quiet_step ((go_at_call 18; exact Calls.quiet_in (HBL.out _)))
  repeat (go_big_quiet_step (fail))
  go_big_quiet_step ((go_at_call 17; exact Calls.quiet_in (HTR.out _)))
  repeat (go_big_quiet_step (fail))
  go_big_quiet_step ((go_at_call 8; exact Calls.quiet_in (lives_any _)))
  repeat (go_big_quiet_step (fail))
  refine wpQuiet_nil ?_
  intro w12 hw'
  have hb12 : Below w11.heap.size w11 w12 := by
    obtain ⟨⟨wz, hbz⟩, hw''⟩ := hw'
    subst hw''
    exact hbz
  clear hw'
  go_wp2_with fail
  go_ret
  exact ⟨rfl, Below.more HB11.out hb12 HB11.out.size⟩
/-- The law's walk. -/
theorem blocks_walk (r : Rt) (S : ByteArray) (w : World) (_hi : Ints r) : Calls Try.prog 3 #[r.val, .string S] w fun e w' => e = .returned (.bool true) ∧ Below w.heap.size w w' := by
  obtain ⟨s, hS⟩ := IsS.all S
  by_cases h : 1000 < S.size
  · exact blocks_long S w r h
  · by_cases hm : may r = true
    · exact blocks_good S w s hS r (may_yes hm) h
    · exact blocks_bad S w s hS r (by simpa using hm) h
end
set_option maxRecDepth 100000 in
theorem blocks_lifted (os : Os) (started : os.Started) (H : Type) (enc : TypeId × Value → H) :
    ReturnsInHanded {} Try.checked os 3 .any (fun w args => Rows.rootBlocksSpec.pre enc Try.prog Try.f3 [] false w args ∧ sizedMet enc Try.prog Try.f3 (OpenSpec.ofChange Rows.rootBlocksSpec) false w args)
      (Rows.rootBlocksSpec.post enc Try.prog Try.f3 false true false false) := by
  refine returnsInHanded_of_change_sized (C := Try.checked) own started (by kernel_rfl) Try.func3
    (ChangeSpec.witness6 (enc := enc) (C := Try.checked) false ⟨#[], #[.agg #[.int .i64 0, .int .i64 0, .int .i64 0, .int .i64 0], .string ⟨#[]⟩], []⟩ 8 (by kernel_rfl) (by kernel_rfl) (by kernel_rfl) (by kernel_rfl)) ?_
  intro W base args ds gs before hval0 hW _ hsz0 _
  have hval : ∀ (j : Nat) t v, Try.f3.params[j]? = some t → args[j]? = some v → Value.okWide Try.prog W .any base t v := hval0
  have hlt := fun x hx => hW.lt (p := x) hx
  have hW' := hW
  obtain ⟨p, q, hA0, hV, rfl, hfz, hnd⟩ := hW
  have hA : DataW.TrodAll enc Try.prog W 0 (fun _ => true) true Try.f3.params.toList args.toList ds p := hA0
  have hsz : (DataW.weightsEach Try.prog (Try.f3.params.toList ++ Rows.rootBlocksSpec.plain.varTypes Try.prog) (ds ++ gs)).all (· ≤ reachBytes) = true := hsz0
  rw [Try.params3] at hA hval hsz
  obtain ⟨v0, vs0, d0, ds0, p0, q0, hargs, rfl, rfl, h0, r0⟩ := trodAll_cons hA
  obtain ⟨v1, vs1, d1, ds1, p1, q1, rfl, rfl, rfl, h1, r1⟩ := trodAll_cons r0
  obtain ⟨rfl, rfl, rfl⟩ := trodAll_nil r1
  obtain rfl : args = #[v0, v1] := by cases args; simp_all
  obtain ⟨rfl, rfl⟩ := trodVars_none hV
  obtain ⟨a0, rfl, hi0⟩ := open_root (hval 0 23 v0 rfl rfl) h0
  obtain ⟨a1, rfl⟩ := open_str (hval 1 9 v1 rfl rfl)
  clear hA0 hval0
  simp only [List.append_nil] at hW'
  refine (blocks_walk a0 a1 W hi0).mono fun e W' ⟨he, hg⟩ => ?_
  subst he
  exact ⟨_, rfl, law_post hW' (fun _ _ _ => (trodAll_cons_mk (shut_bool Try.underlying4 _) trodAll_mk0)) (trodAll_cons_mk (Below.trod laidOut (by kernel_rfl) (by decide +kernel) h0 hg (fun x hx => hlt x (by simp [hx]))) (trodAll_cons_mk (Below.trod laidOut (by kernel_rfl) (by decide +kernel) h1 hg (fun x hx => hlt x (by simp [hx]))) trodAll_mk0)) rfl (by simp) hg⟩

theorem blocks_holds : Rows.RootBlocksSaid :=
  OpenClaim.holds_of_wide 3 Try.f3 rfl rfl rfl rfl rfl rfl rfl ⟨rfl, rfl, rfl, rfl, rfl⟩ rfl rfl rfl rfl rfl (by kernel_rfl) Try.func3 (by kernel_rfl)
    (of_decide_eq_true (by kernel_rfl)) (by unfold Func.isWrapper; first | (rw [if_pos (by decide +kernel)]; kernel_rfl) | (rw [if_neg (by decide +kernel)]; exact ⟨rfl, rfl⟩))
    (fun os started H enc _ => blocks_lifted os started H enc)
#print axioms blocks_holds

end Go.Proofs.Ytnjlhallkgacjaa
