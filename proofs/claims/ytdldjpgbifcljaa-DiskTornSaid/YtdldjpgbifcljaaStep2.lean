/- A step of the law, its kinds that aren't a write. -/
import Derived.Test.YtdldjpgbifcljaaStep1
import Derived.Deep.RegionHeld3
import Derived.Deep.DrawnRows
namespace Go.Proofs.Ytdldjpgbifcljaa
open Go.RowKit

set_option maxRecDepth 100000 in
set_option maxHeartbeats 3200000 in
theorem step_fuse {w : World} {g : Nat} {F : List Nat} {m : Dsk} {q1 q2 : Option Addr} {no n c1 c2 : Nat} {fu : Int} {dw : Bool} {dn : Nat} (o : Opv) (hk : o.kind = 2) (hO : OpB o) (hK : Kp w o.p o.nk o.keep) (hOff : 0 < o.nk → Off F o.p) (hm : m.done ≤ 4611686018427387904 ∧ m.row.length ≤ 1099511627776 ∧ m.out.length ≤ 1099511627776)
    (HS : Hid (SW w (((w.alloc (.cells #[.slice q1 no c1, .slice q2 n c2, .int .i64 fu, .bool dw, .int .i64 (dn : Int)] 33)).alloc (.cells #[.int .i64 o.kind, .int .i64 o.at_, .int .i64 o.n, .int .i64 o.torn, .int .i64 o.long, .int .u8 (o.fill : Int), .slice o.p o.nk o.ck] 39)).alloc (.cells #[.slice none 0 0, .slice none 0 0, .int .i64 0, .bool false, .int .i64 0] 33)) w.heap.size g F F (.slice q1 no c1) (.slice q2 n c2) m m o))
    (HE : Hid (m.fuse = fu ∧ m.down = dw ∧ m.done = dn)) :
    Calls Try.prog 13 #[.pointer (some ⟨g, 0, none⟩), .agg #[.slice q1 no c1, .slice q2 n c2, .int .i64 fu, .bool dw, .int .i64 (dn : Int)], .agg #[.int .i64 o.kind, .int .i64 o.at_, .int .i64 o.n, .int .i64 o.torn, .int .i64 o.long, .int .u8 (o.fill : Int), .slice o.p o.nk o.ck]] w (Ends w g F (fuseM m o.n)) := by
  obtain ⟨kind, at_, num, torn, long, y, p, nk, ck, keep⟩ := o
  obtain rfl : kind = 2 := hk
  have HOP := Lib.hid hO
  obtain ⟨⟨hk1, hk2⟩, ⟨ha1, ha2⟩, ⟨hn1, hn2⟩, ⟨ht1, ht2⟩, ⟨hl1, hl2⟩, hy0, hnk⟩ := hO
  have HKO := Lib.hid (And.intro hK hOff)
  have HM := Lib.hid hm
  clear hK hOff hm
  simp only at HS hk1 hk2 ha1 ha2 hn1 hn2 ht1 ht2 hl1 hl2 hy0 hnk HKO ⊢
  go_enter Try.func13, Try.ntmps13
  go_upto_region 1 with fail
  generalize ((w.alloc (.cells #[.slice q1 no c1, .slice q2 n c2, .int .i64 fu, .bool dw, .int .i64 (dn : Int)] 33)).alloc (.cells #[.int .i64 2, .int .i64 at_, .int .i64 num, .int .i64 torn, .int .i64 long, .int .u8 (y : Int), .slice p nk ck] 39)).alloc (.cells #[.slice none 0 0, .slice none 0 0, .int .i64 0, .bool false, .int .i64 0] 33) = w1 at *
  have o0 := HS.out.o.c0
  have o1 := HS.out.o.c1
  have o2 := HS.out.o.c2
  have o3 := HS.out.o.c3
  have o4 := HS.out.o.c4
  have o5 := HS.out.o.c5
  have o6 := HS.out.o.c6
  go_wp2_with fail
  refine (HS.out.dk.fuse num hn1 hn2).mono ?_
  rintro e w2 ⟨rfl, hw⟩
  obtain ⟨F2, hs⟩ := HS.out.went hw
  have HS2 := Lib.hid hs
  clear hw hs HS o0 o1 o2 o3 o4 o5 o6
  have o0 := HS2.out.o.c0
  have o1 := HS2.out.o.c1
  have o2 := HS2.out.o.c2
  have o3 := HS2.out.o.c3
  have o4 := HS2.out.o.c4
  have o5 := HS2.out.o.c5
  have o6 := HS2.out.o.c6
  have x0 := HS2.out.x.c0
  have x1 := HS2.out.x.c1
  have x2 := HS2.out.x.c2
  have x3 := HS2.out.x.c3
  have x4 := HS2.out.x.c4
  rw [HE.out.1] at x2
  rw [HE.out.2.1] at x3
  rw [HE.out.2.2] at x4
  go_wp2_with fail
  have hr : Ref w2 (.agg #[.slice q1 no c1, .slice q2 n c2, .int .i64 fu, .bool dw, .int .i64 (dn : Int)]) m := ⟨_, _, by unfold refV; rw [HE.out.1, HE.out.2.1, HE.out.2.2], HS2.out.ref⟩
  refine (hr.fuse num hn2).mono ?_
  rintro e w3 ⟨⟨yv, rfl, hy⟩, hb⟩
  have HS3 := Lib.hid (HS2.out.below hb)
  obtain ⟨r1, d1, r2, d2, hyf⟩ := hy.form
  have HY := Lib.hid hy
  subst hyf
  clear hy hb hr x0 x1 x2 x3 x4 o0 o1 o2 o3 o4 o5 o6 HS2
  obtain ⟨z0, z1, z2, z3, z4, hB⟩ := HS3.out.r
  have b0 := hB.c0
  have b1 := hB.c1
  have b2 := hB.c2
  have b3 := hB.c3
  have b4 := hB.c4
  have bf := hB.fz
  have HB := Lib.hid hB
  clear hB
  generalize (fuseM m num).out.length = no2 at *
  generalize (fuseM m num).row.length = n2 at *
  go_wp2_with fail
  exact bodyPost_ret (v := .tuple #[.agg #[.slice r1 no2 d1, .slice r2 n2 d2, .int .i64 (fuseM m num).fuse, .bool (fuseM m num).down, .int .i64 ((fuseM m num).done : Int)], .bool true]) (by simp [results, Try.results13, go_sem, b0, b1, b2, b3, b4]) rfl (ends_of (by omega) HS3.out.dk HY.out HS3.out.chg HB.out _ _ _ _ _)
set_option maxRecDepth 100000 in
set_option maxHeartbeats 3200000 in
theorem step_fail {w : World} {g : Nat} {F : List Nat} {m : Dsk} {q1 q2 : Option Addr} {no n c1 c2 : Nat} {fu : Int} {dw : Bool} {dn : Nat} (o : Opv) (hk : o.kind = 3) (hO : OpB o) (hK : Kp w o.p o.nk o.keep) (hOff : 0 < o.nk → Off F o.p) (hm : m.done ≤ 4611686018427387904 ∧ m.row.length ≤ 1099511627776 ∧ m.out.length ≤ 1099511627776)
    (HS : Hid (SW w (((w.alloc (.cells #[.slice q1 no c1, .slice q2 n c2, .int .i64 fu, .bool dw, .int .i64 (dn : Int)] 33)).alloc (.cells #[.int .i64 o.kind, .int .i64 o.at_, .int .i64 o.n, .int .i64 o.torn, .int .i64 o.long, .int .u8 (o.fill : Int), .slice o.p o.nk o.ck] 39)).alloc (.cells #[.slice none 0 0, .slice none 0 0, .int .i64 0, .bool false, .int .i64 0] 33)) w.heap.size g F F (.slice q1 no c1) (.slice q2 n c2) m m o))
    (HE : Hid (m.fuse = fu ∧ m.down = dw ∧ m.done = dn)) :
    Calls Try.prog 13 #[.pointer (some ⟨g, 0, none⟩), .agg #[.slice q1 no c1, .slice q2 n c2, .int .i64 fu, .bool dw, .int .i64 (dn : Int)], .agg #[.int .i64 o.kind, .int .i64 o.at_, .int .i64 o.n, .int .i64 o.torn, .int .i64 o.long, .int .u8 (o.fill : Int), .slice o.p o.nk o.ck]] w (Ends w g F (failM m (keepB o.nk o.keep) o.torn o.n)) := by
  obtain ⟨kind, at_, num, torn, long, y, p, nk, ck, keep⟩ := o
  obtain rfl : kind = 3 := hk
  have HOP := Lib.hid hO
  obtain ⟨⟨hk1, hk2⟩, ⟨ha1, ha2⟩, ⟨hn1, hn2⟩, ⟨ht1, ht2⟩, ⟨hl1, hl2⟩, hy0, hnk⟩ := hO
  have HKO := Lib.hid (And.intro hK hOff)
  have HM := Lib.hid hm
  clear hK hOff hm
  simp only at HS hk1 hk2 ha1 ha2 hn1 hn2 ht1 ht2 hl1 hl2 hy0 hnk HKO ⊢
  go_enter Try.func13, Try.ntmps13
  go_upto_region 1 with fail
  generalize ((w.alloc (.cells #[.slice q1 no c1, .slice q2 n c2, .int .i64 fu, .bool dw, .int .i64 (dn : Int)] 33)).alloc (.cells #[.int .i64 3, .int .i64 at_, .int .i64 num, .int .i64 torn, .int .i64 long, .int .u8 (y : Int), .slice p nk ck] 39)).alloc (.cells #[.slice none 0 0, .slice none 0 0, .int .i64 0, .bool false, .int .i64 0] 33) = w1 at *
  have o0 := HS.out.o.c0
  have o1 := HS.out.o.c1
  have o2 := HS.out.o.c2
  have o3 := HS.out.o.c3
  have o4 := HS.out.o.c4
  have o5 := HS.out.o.c5
  have o6 := HS.out.o.c6
  go_wp2_with fail
  refine (HS.out.dk.fail (by have := HM.out; omega) p nk ck keep (HKO.out.1.chg HKO.out.2 HS.out.chg) HKO.out.2 hnk torn num).mono ?_
  rintro e w2 ⟨rfl, hw⟩
  obtain ⟨F2, hs⟩ := HS.out.went hw
  have HS2 := Lib.hid hs
  clear hw hs HS o0 o1 o2 o3 o4 o5 o6
  have o0 := HS2.out.o.c0
  have o1 := HS2.out.o.c1
  have o2 := HS2.out.o.c2
  have o3 := HS2.out.o.c3
  have o4 := HS2.out.o.c4
  have o5 := HS2.out.o.c5
  have o6 := HS2.out.o.c6
  have x0 := HS2.out.x.c0
  have x1 := HS2.out.x.c1
  have x2 := HS2.out.x.c2
  have x3 := HS2.out.x.c3
  have x4 := HS2.out.x.c4
  rw [HE.out.1] at x2
  rw [HE.out.2.1] at x3
  rw [HE.out.2.2] at x4
  go_wp2_with fail
  have hr : Ref w2 (.agg #[.slice q1 no c1, .slice q2 n c2, .int .i64 fu, .bool dw, .int .i64 (dn : Int)]) m := ⟨_, _, by unfold refV; rw [HE.out.1, HE.out.2.1, HE.out.2.2], HS2.out.ref⟩
  refine (hr.fail (by have := HM.out; omega) (by have := HM.out; omega) p nk ck keep (HKO.out.1.chg HKO.out.2 HS2.out.chg) hnk torn num).mono ?_
  rintro e w3 ⟨⟨yv, rfl, hy⟩, hb⟩
  have HS3 := Lib.hid (HS2.out.below hb)
  obtain ⟨r1, d1, r2, d2, hyf⟩ := hy.form
  have HY := Lib.hid hy
  subst hyf
  clear hy hb hr x0 x1 x2 x3 x4 o0 o1 o2 o3 o4 o5 o6 HS2
  obtain ⟨z0, z1, z2, z3, z4, hB⟩ := HS3.out.r
  have b0 := hB.c0
  have b1 := hB.c1
  have b2 := hB.c2
  have b3 := hB.c3
  have b4 := hB.c4
  have bf := hB.fz
  have HB := Lib.hid hB
  clear hB
  generalize (failM m (keepB nk keep) torn num).out.length = no2 at *
  generalize (failM m (keepB nk keep) torn num).row.length = n2 at *
  go_wp2_with fail
  exact bodyPost_ret (v := .tuple #[.agg #[.slice r1 no2 d1, .slice r2 n2 d2, .int .i64 (failM m (keepB nk keep) torn num).fuse, .bool (failM m (keepB nk keep) torn num).down, .int .i64 ((failM m (keepB nk keep) torn num).done : Int)], .bool true]) (by simp [results, Try.results13, go_sem, b0, b1, b2, b3, b4]) rfl (ends_of (by omega) HS3.out.dk HY.out HS3.out.chg HB.out _ _ _ _ _)
set_option maxRecDepth 100000 in
set_option maxHeartbeats 3200000 in
theorem step_read {w : World} {g : Nat} {F : List Nat} {m : Dsk} {q1 q2 : Option Addr} {no n c1 c2 : Nat} {fu : Int} {dw : Bool} {dn : Nat} (o : Opv) (hk : o.kind ≠ 0 ∧ o.kind ≠ 1 ∧ o.kind ≠ 2 ∧ o.kind ≠ 3 ∧ o.kind ≠ 4) (hO : OpB o) (hK : Kp w o.p o.nk o.keep) (hOff : 0 < o.nk → Off F o.p) (hm : m.done ≤ 4611686018427387904 ∧ m.row.length ≤ 1099511627776 ∧ m.out.length ≤ 1099511627776)
    (HS : Hid (SW w (((w.alloc (.cells #[.slice q1 no c1, .slice q2 n c2, .int .i64 fu, .bool dw, .int .i64 (dn : Int)] 33)).alloc (.cells #[.int .i64 o.kind, .int .i64 o.at_, .int .i64 o.n, .int .i64 o.torn, .int .i64 o.long, .int .u8 (o.fill : Int), .slice o.p o.nk o.ck] 39)).alloc (.cells #[.slice none 0 0, .slice none 0 0, .int .i64 0, .bool false, .int .i64 0] 33)) w.heap.size g F F (.slice q1 no c1) (.slice q2 n c2) m m o))
    (HE : Hid (m.fuse = fu ∧ m.down = dw ∧ m.done = dn)) :
    Calls Try.prog 13 #[.pointer (some ⟨g, 0, none⟩), .agg #[.slice q1 no c1, .slice q2 n c2, .int .i64 fu, .bool dw, .int .i64 (dn : Int)], .agg #[.int .i64 o.kind, .int .i64 o.at_, .int .i64 o.n, .int .i64 o.torn, .int .i64 o.long, .int .u8 (o.fill : Int), .slice o.p o.nk o.ck]] w (Ends w g F (m)) := by
  obtain ⟨kind, at_, num, torn, long, y, p, nk, ck, keep⟩ := o
  obtain ⟨e0, e1, e2, e3, e4⟩ := hk
  simp only at e0 e1 e2 e3 e4
  have t0 : (kind == 0) = false := by simpa using e0
  have t1 : (kind == 1) = false := by simpa using e1
  have t2 : (kind == 2) = false := by simpa using e2
  have t3 : (kind == 3) = false := by simpa using e3
  have t4 : (kind == 4) = false := by simpa using e4
  clear e0 e1 e2 e3 e4
  have HOP := Lib.hid hO
  obtain ⟨⟨hk1, hk2⟩, ⟨ha1, ha2⟩, ⟨hn1, hn2⟩, ⟨ht1, ht2⟩, ⟨hl1, hl2⟩, hy0, hnk⟩ := hO
  have HKO := Lib.hid (And.intro hK hOff)
  have HM := Lib.hid hm
  clear hK hOff hm
  simp only at HS hk1 hk2 ha1 ha2 hn1 hn2 ht1 ht2 hl1 hl2 hy0 hnk HKO ⊢
  go_enter Try.func13, Try.ntmps13
  go_upto_region 1 with fail
  generalize ((w.alloc (.cells #[.slice q1 no c1, .slice q2 n c2, .int .i64 fu, .bool dw, .int .i64 (dn : Int)] 33)).alloc (.cells #[.int .i64 kind, .int .i64 at_, .int .i64 num, .int .i64 torn, .int .i64 long, .int .u8 (y : Int), .slice p nk ck] 39)).alloc (.cells #[.slice none 0 0, .slice none 0 0, .int .i64 0, .bool false, .int .i64 0] 33) = w1 at *
  have o0 := HS.out.o.c0
  have o1 := HS.out.o.c1
  have o2 := HS.out.o.c2
  have o3 := HS.out.o.c3
  have o4 := HS.out.o.c4
  have o5 := HS.out.o.c5
  have o6 := HS.out.o.c6
  go_wp2_with fail
  refine (HS.out.dk.read at_).mono ?_
  rintro e w2 ⟨rfl, rfl⟩
  have x0 := HS.out.x.c0
  have x1 := HS.out.x.c1
  have x2 := HS.out.x.c2
  have x3 := HS.out.x.c3
  have x4 := HS.out.x.c4
  rw [HE.out.1] at x2
  rw [HE.out.2.1] at x3
  rw [HE.out.2.2] at x4
  have hr : Ref w1 (.agg #[.slice q1 no c1, .slice q2 n c2, .int .i64 fu, .bool dw, .int .i64 (dn : Int)]) m := ⟨_, _, by unfold refV; rw [HE.out.1, HE.out.2.1, HE.out.2.2], HS.out.ref⟩
  have hrd := hr.read at_ (by have := HM.out; omega)
  have HRD := Lib.hid hrd
  clear hrd
  generalize strB (readS m at_) = S at *
  generalize readE m at_ = E at *
  go_wp2_with fail
  refine HRD.out.mono ?_
  rintro e w3 ⟨rfl, hb⟩
  have HS3 := Lib.hid (HS.out.below hb)
  have HY := Lib.hid (hr.below hb)
  clear hb hr x0 x1 x2 x3 x4 o0 o1 o2 o3 o4 o5 o6 HS HRD
  obtain ⟨z0, z1, z2, z3, z4, hB⟩ := HS3.out.r
  have b0 := hB.c0
  have b1 := hB.c1
  have b2 := hB.c2
  have b3 := hB.c3
  have b4 := hB.c4
  have bf := hB.fz
  have HB := Lib.hid hB
  clear hB
  have x0 := HS3.out.x.c0
  have x1 := HS3.out.x.c1
  have x2 := HS3.out.x.c2
  have x3 := HS3.out.x.c3
  have x4 := HS3.out.x.c4
  rw [HE.out.1] at x2
  rw [HE.out.2.1] at x3
  rw [HE.out.2.2] at x4
  go_wp2_with fail
  exact bodyPost_ret (v := .tuple #[.agg #[.slice q1 no c1, .slice q2 n c2, .int .i64 fu, .bool dw, .int .i64 (dn : Int)], .bool true]) (by simp [results, Try.results13, go_sem, b0, b1, b2, b3, b4]) rfl (ends_of (by omega) HS3.out.dk HY.out HS3.out.chg HB.out _ _ _ _ _)
end Go.Proofs.Ytdldjpgbifcljaa
