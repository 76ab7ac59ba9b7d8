/- What Store returns, and what it makes of a disk. -/
import Derived.Test.YtnjlhallkgacjaaLoad0
namespace Go.Proofs.Ytnjlhallkgacjaa
open Go.RowKit

theorem Went.after {F : List Nat} {g : Nat} {m : Dsk} {w w1 w' : World} (hb : Below w.heap.size w w1) (h : Went F g m w1 w') : Went F g m w w' := by
  obtain ⟨F', hD, hC⟩ := h
  exact ⟨F', hD, (Chg.of_below hb).trans hC⟩
section
variable (r : Rt) (w : World)
set_option maxHeartbeats 800000 in
theorem store_bad (p : Option Addr) (hm0 : may r = false) : Calls Try.prog 22 #[.pointer p, r.val] w fun e w' => e = .returned (.int .i64 1) ∧ Below w.heap.size w w' := by
  have HEN := Lib.hid (fun w => encode_no r w hm0)
  have HR0 := Lib.hid (RtAt.new w r 29)
  have HB0 := Lib.hid (alloc_below w (.cells #[.int .i64 r.ep, .int .i64 r.pg, .int .i64 r.dr, .int .i64 r.wd] 29))
  clear hm0
  unfold Rt.val at *
  go_enter Try.func22, Try.ntmps22
  go_wp2_with fail
  refine (HEN.out _).mono ?_
  rintro e w2 ⟨rfl, hb⟩
  have HR2 := Lib.hid (HR0.out.below hb)
  have HB2 := Lib.hid (Below.more HB0.out hb HB0.out.size)
  clear hb HEN HR0 HB0
  go_wp2_with fail
  go_ret
  exact ⟨rfl, HB2.out⟩
set_option maxHeartbeats 1600000 in
theorem store_nil (hm : Mays r) : Calls Try.prog 22 #[.pointer none, r.val] w fun e w' => e = .returned (.int .i64 1) ∧ Below w.heap.size w w' := by
  have HEN := Lib.hid (fun w => encode_yes r w hm)
  have HR0 := Lib.hid (RtAt.new w r 29)
  have HB0 := Lib.hid (alloc_below w (.cells #[.int .i64 r.ep, .int .i64 r.pg, .int .i64 r.dr, .int .i64 r.wd] 29))
  have p0 := hm.p0
  have p1 := hm.p1
  have hlt : (0 : Int) < r.pg * 4 := by omega
  clear hm
  unfold Rt.val at *
  go_enter Try.func22, Try.ntmps22
  go_wp2_with fail
  refine (HEN.out _).mono ?_
  rintro e w2 ⟨rfl, hb⟩
  have HR2 := Lib.hid (HR0.out.below hb)
  have HB2 := Lib.hid (Below.more HB0.out hb HB0.out.size)
  clear hb HEN HR0 HB0
  go_upto_region 4 with fail
  have r1 := HR2.out.c1
  go_quiet ((go_at_call 35; exact Calls.quiet_of_same ((sectors_nil _).mono fun _ _ h => ⟨h.1, h.2.symm⟩)))
  have hbq : Below w2.heap.size w2 (w2.drewN nq) := below_drewN (Below.refl _ _) nq
  have HB3 := Lib.hid (Below.more HB2.out hbq HB2.out.size)
  clear hbq HB2 HR2 r1
  generalize w2.drewN nq = w3 at *
  go_wp2_with fail
  go_ret
  exact ⟨rfl, HB3.out⟩
set_option maxHeartbeats 1600000 in
theorem store_small {g : Nat} {F : List Nat} {m : Dsk} (h : Dk w g F m) (hm : Mays r) (hl : (m.out.length : Int) < r.pg * 4) : Calls Try.prog 22 #[.pointer (some ⟨g, 0, none⟩), r.val] w fun e w' => e = .returned (.int .i64 1) ∧ Below w.heap.size w w' := by
  have HEN := Lib.hid (fun w => encode_yes r w hm)
  have HR0 := Lib.hid (RtAt.new w r 29)
  have HB0 := Lib.hid (alloc_below w (.cells #[.int .i64 r.ep, .int .i64 r.pg, .int .i64 r.dr, .int .i64 r.wd] 29))
  have p0 := hm.p0
  have p1 := hm.p1
  obtain ⟨n, hn⟩ : ∃ n, m.out.length = n := ⟨_, rfl⟩
  rw [hn] at hl
  have HD := Lib.hid h
  have HNN := Lib.hid hn
  clear hm h hn
  unfold Rt.val at *
  go_enter Try.func22, Try.ntmps22
  go_wp2_with fail
  refine (HEN.out _).mono ?_
  rintro e w2 ⟨rfl, hb⟩
  have HR2 := Lib.hid (HR0.out.below hb)
  have HB2 := Lib.hid (Below.more HB0.out hb HB0.out.size)
  clear hb HEN HR0 HB0
  have HD2 := Lib.hid (HD.out.below HB2.out)
  clear HD
  go_upto_region 4 with fail
  have r1 := HR2.out.c1
  go_quiet ((go_at_call 35; exact Calls.quiet_of_same (((HD2.out.below (below_drewN (Below.refl _ _) _)).sectors n HNN.out).mono fun _ _ h => ⟨h.1, h.2.symm⟩)))
  have hbq : Below w2.heap.size w2 (w2.drewN nq) := below_drewN (Below.refl _ _) nq
  have HB3 := Lib.hid (Below.more HB2.out hbq HB2.out.size)
  clear hbq HB2 HR2 HD2 r1
  generalize w2.drewN nq = w3 at *
  go_wp2_with fail
  go_ret
  exact ⟨rfl, HB3.out⟩
set_option maxHeartbeats 1600000 in
theorem store_put {g : Nat} {F : List Nat} {m : Dsk} (h : Dk w g F m) (hm : Mays r) (hl : r.pg * 4 ≤ (m.out.length : Int)) (hdn : m.done ≤ 4611686018427387904) (hrl : m.row.length ≤ 1099511627776) :
    Calls Try.prog 22 #[.pointer (some ⟨g, 0, none⟩), r.val] w fun e w' => e = .returned (.int .i64 (putE m (place r.ep) (block r))) ∧ Went F g (putM m (place r.ep) (block r)) w w' := by
  have HEN := Lib.hid (fun w => encode_yes r w hm)
  have HR0 := Lib.hid (RtAt.new w r 29)
  have HB0 := Lib.hid (alloc_below w (.cells #[.int .i64 r.ep, .int .i64 r.pg, .int .i64 r.dr, .int .i64 r.wd] 29))
  have p0 := hm.p0
  have p1 := hm.p1
  obtain ⟨n, hn⟩ : ∃ n, m.out.length = n := ⟨_, rfl⟩
  rw [hn] at hl
  have hl2 : decide ((n : Int) < r.pg * 4) = false := decide_eq_false (by omega)
  have HD := Lib.hid h
  have HNN := Lib.hid hn
  have HPL := Lib.hid (fun w => place_any r.ep w)
  have HPUT := Lib.hid (fun (w : World) (h : Dk w g F m) => put_any h (place r.ep) (block r) (block_dig r) hdn hrl)
  generalize putE m (place r.ep) (block r) = E at *
  generalize putM m (place r.ep) (block r) = m2 at *
  generalize place r.ep = P at *
  obtain ⟨BS, hBS⟩ : ∃ BS, strB (block r) = BS := ⟨_, rfl⟩
  rw [hBS] at HPUT HEN
  clear hm h hn hBS hdn hrl
  unfold Rt.val at *
  go_enter Try.func22, Try.ntmps22
  go_wp2_with fail
  refine (HEN.out _).mono ?_
  rintro e w2 ⟨rfl, hb⟩
  have HR2 := Lib.hid (HR0.out.below hb)
  have HB2 := Lib.hid (Below.more HB0.out hb HB0.out.size)
  clear hb HEN HR0 HB0
  have HD2 := Lib.hid (HD.out.below HB2.out)
  clear HD
  go_upto_region 4 with fail
  have r1 := HR2.out.c1
  go_quiet ((go_at_call 35; exact Calls.quiet_of_same (((HD2.out.below (below_drewN (Below.refl _ _) _)).sectors n HNN.out).mono fun _ _ h => ⟨h.1, h.2.symm⟩)))
  have hbq : Below w2.heap.size w2 (w2.drewN nq) := below_drewN (Below.refl _ _) nq
  have HB3 := Lib.hid (Below.more HB2.out hbq HB2.out.size)
  have HR3 := Lib.hid (HR2.out.below hbq)
  have HD3 := Lib.hid (HD2.out.below hbq)
  clear hbq HB2 HR2 HD2 r1
  generalize w2.drewN nq = w3 at *
  have r0 := HR3.out.c0
  go_wp2_with (first
    | (go_at_call 15; refine (HPL.out _).mono ?_; rintro e w7 ⟨rfl, rfl⟩)
    | (go_at_call 37; refine (HPUT.out _ HD3.out).mono ?_; rintro e w7 ⟨rfl, hw⟩; have HW := Lib.hid hw; clear hw))
  go_ret
  exact ⟨rfl, Went.after HB3.out HW.out⟩
end
end Go.Proofs.Ytnjlhallkgacjaa
