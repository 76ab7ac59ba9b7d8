/- The law RootTorn returns true for any two roots and any place. -/
import Derived.Test.YtnjlhallkgacjaaLBlk
import Derived.Test.YtnjlhallkgacjaaTorn5
import Derived.Deep.RegionWith
namespace Go.Proofs.Ytnjlhallkgacjaa
open Go.ChangeShapes Go.WideShapes Go.ChangeAt Go.RowKit

/-- Two boxes of roots that came in. -/
structure TB (w wr : World) (a b : Rt) : Prop where
  b3 : RtAt wr w.heap.size 23 a
  b4 : RtAt wr (w.heap.size + 1) 23 b
  below : Below w.heap.size w wr
theorem TB.more {w wr w' : World} {a b : Rt} (h : TB w wr a b) (k : Below wr.heap.size wr w') : TB w w' a b := ⟨h.b3.below k, h.b4.below k, Below.more h.below k h.below.size⟩
theorem TB.new (w : World) (a b : Rt) : TB w ((w.alloc (.cells #[.int .i64 a.ep, .int .i64 a.pg, .int .i64 a.dr, .int .i64 a.wd] 23)).alloc (.cells #[.int .i64 b.ep, .int .i64 b.pg, .int .i64 b.dr, .int .i64 b.wd] 23)) a b :=
  ⟨heap_alloc2_old w _ _, heap_alloc2_new w _ _, ((Below.refl _ _).alloc (Nat.le_refl _) _).alloc (by simp) _⟩
theorem TB.lt {w wr : World} {a b : Rt} (h : TB w wr a b) : w.heap.size + 1 < wr.heap.size := h.b4.lt
theorem endA {w w7 w8 : World} {a b x : Rt} (h : TB w w7 a b) (hb : Below w7.drew.heap.size w7.drew w8) :
    RtAt (w8.alloc (.cells #[.int .i64 x.ep, .int .i64 x.pg, .int .i64 x.dr, .int .i64 x.wd] 29)) w8.heap.size 29 x ∧ TB w (w8.alloc (.cells #[.int .i64 x.ep, .int .i64 x.pg, .int .i64 x.dr, .int .i64 x.wd] 29)) a b :=
  ⟨RtAt.new w8 x 29, ((h.more (Below.refl _ _).drew).more hb).more (alloc_below _ _)⟩
theorem endB {w w7 w8 : World} {a b : Rt} (h : TB w w7 a b) (hb : Below (w7.drew.alloc (.cells #[.int .i64 0, .int .i64 0, .int .i64 0, .int .i64 0] 29)).heap.size (w7.drew.alloc (.cells #[.int .i64 0, .int .i64 0, .int .i64 0, .int .i64 0] 29)) w8) :
    RtAt w8 w7.heap.size 29 Rt.none_ ∧ TB w w8 a b :=
  ⟨(RtAt.new w7.drew Rt.none_ 29).below hb, ((h.more (Below.refl _ _).drew).more (alloc_below _ _)).more hb⟩
theorem endB2 {w w7 w8 : World} {a b x : Rt} (h : TB w w7 a b) (hb : Below (w7.drew.alloc (.cells #[.int .i64 0, .int .i64 0, .int .i64 0, .int .i64 0] 29)).heap.size (w7.drew.alloc (.cells #[.int .i64 0, .int .i64 0, .int .i64 0, .int .i64 0] 29)) w8) :
    RtAt (set4 w8 w7.heap.size x) w7.heap.size 29 x ∧ TB w (set4 w8 w7.heap.size x) a b := by
  have h1 := endB h hb
  have hl := h.lt
  exact ⟨h1.1.set4 x, h1.2.b3.set4_other _ (by omega), h1.2.b4.set4_other _ (by omega), below_set4 h1.2.below (by omega) _⟩
section
variable (w : World)
set_option maxRecDepth 20000 in
set_option maxHeartbeats 3200000 in
theorem torn_none_no (now : Rt) (t : Int) (hm0 : may now = false) : Calls Try.prog 5 #[Rt.none_.val, now.val, .int .i64 t] w fun e w' => e = .returned (.bool true) ∧ Below w.heap.size w w' := by
  obtain ⟨Z, HZS⟩ : ∃ Z, Hid (strB zs128 = Z) := ⟨_, Lib.hid rfl⟩
  have HRM := Lib.hid (fun w => rmay_any now w)
  have HMN := Lib.hid (fun w => mine_any now w)
  rw [hm0] at HRM
  have HEN := Lib.hid (fun w => encode_no now w hm0)
  clear hm0
  obtain ⟨i0, hi, hz0, hz1, hz2⟩ := info_parts Try.info5
  have HI := Lib.hid hi
  have HZ0 := Lib.hid hz0
  have HZ1 := Lib.hid hz1
  have HZ2 := Lib.hid hz2
  clear hi hz0 hz1 hz2
  unfold Rt.val at *
  go_enter Try.func5, Try.ntmps5
  go_wp2_with (refine wpList_make_full _ rfl _ _ 45 rfl 0 5 i0 (.int .u8 0) 1 Try.underlying45 HI.out HZ0.out HZ1.out .i64 .i64 128 128 128 rfl rfl rfl rfl (by rw [HZ2.out]; omega) (by unfold maxLen; omega) (Nat.zero_le _) ?_)
  intro w2 hown hgrow
  have HT2 : Hid (TB w w2 Rt.none_ now) := Lib.hid ((TB.new w Rt.none_ now).more ((Below.refl _ _).grown hgrow (Nat.le_refl _) (fun k e => by cases e)))
  have hcv := zeros_conv hown
  clear hown hgrow HI HZ0 HZ1 HZ2
  rw [HZS.out] at hcv
  have k30 : w2.cell? ⟨w.heap.size, 0, none⟩ = some (.int .i64 0) := HT2.out.b3.c0
  have k31 : w2.cell? ⟨w.heap.size, 1, none⟩ = some (.int .i64 0) := HT2.out.b3.c1
  have k32 : w2.cell? ⟨w.heap.size, 2, none⟩ = some (.int .i64 0) := HT2.out.b3.c2
  have k33 : w2.cell? ⟨w.heap.size, 3, none⟩ = some (.int .i64 0) := HT2.out.b3.c3
  go_upto_region 7 with fail
  clear k30 k31 k32 k33
  have k40 := HT2.out.b4.c0
  have k41 := HT2.out.b4.c1
  have k42 := HT2.out.b4.c2
  have k43 := HT2.out.b4.c3
  go_wp2_with fail
  refine (HMN.out _).mono ?_
  rintro e w6 ⟨rfl, hb6⟩
  have HT6 := Lib.hid (HT2.out.more hb6)
  clear hb6 k40 k41 k42 k43 HT2
  go_wp2_with fail
  refine (HEN.out _).mono ?_
  rintro e w7 ⟨rfl, hb7⟩
  have HT7 := Lib.hid (HT6.out.more hb7)
  clear hb7 HT6
  have k30 := HT7.out.b3.c0
  have k31 := HT7.out.b3.c1
  have k32 := HT7.out.b3.c2
  have k33 := HT7.out.b3.c3
  have k40 := HT7.out.b4.c0
  have k41 := HT7.out.b4.c1
  have k42 := HT7.out.b4.c2
  have k43 := HT7.out.b4.c3
  go_wp2_with (first
    | (go_at_call 9; refine (HRM.out _).mono ?_; rintro e w8 ⟨rfl, hb8⟩; have HT8 := Lib.hid (HT7.out.more hb8); clear hb8)
    | (go_at_call 8; refine (lives_any _).mono ?_; rintro e w9 ⟨rfl, hb9⟩))
  go_ret
  exact ⟨rfl, Below.more HT8.out.below hb9 HT8.out.below.size⟩
set_option maxRecDepth 20000 in
set_option maxHeartbeats 3200000 in
theorem torn_mays_no (was now : Rt) (t : Int) (hw : Mays was) (hm0 : may now = false) : Calls Try.prog 5 #[was.val, now.val, .int .i64 t] w fun e w' => e = .returned (.bool true) ∧ Below w.heap.size w w' := by
  obtain ⟨Z, HZS⟩ : ∃ Z, Hid (strB zs128 = Z) := ⟨_, Lib.hid rfl⟩
  have HMW := Lib.hid (fun w => mine_any was w)
  have HEW := Lib.hid (fun w => encode_yes was w hw)
  have hw0 : ¬ was.ep = 0 := by have := hw.e0; omega
  obtain ⟨OS, hOS⟩ : ∃ OS, strB (block was) = OS := ⟨_, rfl⟩
  rw [hOS] at HEW
  have HRM := Lib.hid (fun w => rmay_any now w)
  have HMN := Lib.hid (fun w => mine_any now w)
  rw [hm0] at HRM
  have HEN := Lib.hid (fun w => encode_no now w hm0)
  clear hm0
  obtain ⟨i0, hi, hz0, hz1, hz2⟩ := info_parts Try.info5
  have HI := Lib.hid hi
  have HZ0 := Lib.hid hz0
  have HZ1 := Lib.hid hz1
  have HZ2 := Lib.hid hz2
  clear hi hz0 hz1 hz2
  unfold Rt.val at *
  go_enter Try.func5, Try.ntmps5
  go_wp2_with (refine wpList_make_full _ rfl _ _ 45 rfl 0 5 i0 (.int .u8 0) 1 Try.underlying45 HI.out HZ0.out HZ1.out .i64 .i64 128 128 128 rfl rfl rfl rfl (by rw [HZ2.out]; omega) (by unfold maxLen; omega) (Nat.zero_le _) ?_)
  intro w2 hown hgrow
  have HT2 : Hid (TB w w2 was now) := Lib.hid ((TB.new w was now).more ((Below.refl _ _).grown hgrow (Nat.le_refl _) (fun k e => by cases e)))
  have hcv := zeros_conv hown
  clear hown hgrow HI HZ0 HZ1 HZ2
  rw [HZS.out] at hcv
  have k30 := HT2.out.b3.c0
  have k31 := HT2.out.b3.c1
  have k32 := HT2.out.b3.c2
  have k33 := HT2.out.b3.c3
  go_wp2_with fail
  refine (HMW.out _).mono ?_
  rintro e w3 ⟨rfl, hb3⟩
  have HT3 := Lib.hid (HT2.out.more hb3)
  clear hb3 k30 k31 k32 k33 HT2
  go_wp2_with fail
  refine (HEW.out _).mono ?_
  rintro e w4 ⟨rfl, hb4⟩
  have HT4 := Lib.hid (HT3.out.more hb4)
  clear hb4 HT3
  go_upto_region 7 with fail
  have k40 := HT4.out.b4.c0
  have k41 := HT4.out.b4.c1
  have k42 := HT4.out.b4.c2
  have k43 := HT4.out.b4.c3
  go_wp2_with fail
  refine (HMN.out _).mono ?_
  rintro e w6 ⟨rfl, hb6⟩
  have HT6 := Lib.hid (HT4.out.more hb6)
  clear hb6 k40 k41 k42 k43 HT4
  go_wp2_with fail
  refine (HEN.out _).mono ?_
  rintro e w7 ⟨rfl, hb7⟩
  have HT7 := Lib.hid (HT6.out.more hb7)
  clear hb7 HT6
  have k30 := HT7.out.b3.c0
  have k31 := HT7.out.b3.c1
  have k32 := HT7.out.b3.c2
  have k33 := HT7.out.b3.c3
  have k40 := HT7.out.b4.c0
  have k41 := HT7.out.b4.c1
  have k42 := HT7.out.b4.c2
  have k43 := HT7.out.b4.c3
  go_wp2_with (first
    | (go_at_call 9; refine (HRM.out _).mono ?_; rintro e w8 ⟨rfl, hb8⟩; have HT8 := Lib.hid (HT7.out.more hb8); clear hb8)
    | (go_at_call 8; refine (lives_any _).mono ?_; rintro e w9 ⟨rfl, hb9⟩))
  go_ret
  exact ⟨rfl, Below.more HT8.out.below hb9 HT8.out.below.size⟩
end
end Go.Proofs.Ytnjlhallkgacjaa
