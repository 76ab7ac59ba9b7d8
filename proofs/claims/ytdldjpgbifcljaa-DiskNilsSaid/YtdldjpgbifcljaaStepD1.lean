/- A step on a disk and on another one of the document's. -/
import Derived.Test.YtdldjpgbifcljaaStep
import Derived.Deep.RegionHeld3
import Derived.Deep.DrawnRows
import Derived.Deep.CutBlock
import Derived.Deep.DeepCutAuto
namespace Go.Proofs.Ytdldjpgbifcljaa
open Go.RowKit

/-- How a step ends where the two disks need not be the same. -/
def EndsD (w : World) (g : Nat) (F : List Nat) (md m : Dsk) (e : Ending) (w' : World) : Prop := ∃ y F' b, e = .returned (.tuple #[y, .bool b]) ∧ Dk w' g F' md ∧ Ref w' y m ∧ Chg F F' w w'
theorem endsd_of {w wx : World} {g k : Nat} {F Fx : List Nat} {md m : Dsk} {y : Value} {b : Bool} (hk : w.heap.size ≤ k) (hD : Dk wx g Fx md) (hR : Ref wx y m) (hc : Chg F Fx w wx) {z0 z1 z2 z3 z4 : Value} (hB : Box5 wx k z0 z1 z2 z3 z4) (v0 v1 v2 v3 v4 : Value) :
    EndsD w g F md m (.returned (.tuple #[y, .bool b])) (((((wx.setCell ⟨k, 0, none⟩ v0).setCell ⟨k, 1, none⟩ v1).setCell ⟨k, 2, none⟩ v2).setCell ⟨k, 3, none⟩ v3).setCell ⟨k, 4, none⟩ v4) :=
  ⟨y, Fx, b, rfl, hD.apart hB (five_other wx k v0 v1 v2 v3 v4), hR.apart hB (five_other wx k v0 v1 v2 v3 v4), (((((hc.set5 hk 0 v0).set5 hk 1 v1).set5 hk 2 v2).set5 hk 3 v3).set5 hk 4 v4)⟩
theorem SW.startD {w : World} {g : Nat} {F : List Nat} {vL vR : Value} {m md : Dsk} {o : Opv} (hD : Dk w g F md) (hR : RefV w vL vR m) :
    SW w (((w.alloc (.cells #[vL, vR, .int .i64 m.fuse, .bool m.down, .int .i64 (m.done : Int)] 33)).alloc (.cells #[.int .i64 o.kind, .int .i64 o.at_, .int .i64 o.n, .int .i64 o.torn, .int .i64 o.long, .int .u8 (o.fill : Int), .slice o.p o.nk o.ck] 39)).alloc (.cells #[.slice none 0 0, .slice none 0 0, .int .i64 0, .bool false, .int .i64 0] 33)) w.heap.size g F F vL vR m md o := by
  have hb := below3 w (.cells #[vL, vR, .int .i64 m.fuse, .bool m.down, .int .i64 (m.done : Int)] 33) (.cells #[.int .i64 o.kind, .int .i64 o.at_, .int .i64 o.n, .int .i64 o.torn, .int .i64 o.long, .int .u8 (o.fill : Int), .slice o.p o.nk o.ck] 39) (.cells #[.slice none 0 0, .slice none 0 0, .int .i64 0, .bool false, .int .i64 0] 33)
  obtain ⟨h1, h2, h3⟩ := three_boxes w (.cells #[vL, vR, .int .i64 m.fuse, .bool m.down, .int .i64 (m.done : Int)] 33) (.cells #[.int .i64 o.kind, .int .i64 o.at_, .int .i64 o.n, .int .i64 o.torn, .int .i64 o.long, .int .u8 (o.fill : Int), .slice o.p o.nk o.ck] 39) (.cells #[.slice none 0 0, .slice none 0 0, .int .i64 0, .bool false, .int .i64 0] 33)
  exact ⟨⟨h1⟩, ⟨h2⟩, ⟨_, _, _, _, _, ⟨h3⟩⟩, hR.below hb, hD.below hb, Chg.of_below hb⟩
set_option maxRecDepth 100000 in
set_option maxHeartbeats 1600000 in
theorem stepd_start {w : World} {g : Nat} {F : List Nat} {m md : Dsk} {q1 q2 : Option Addr} {no n c1 c2 : Nat} {fu : Int} {dw : Bool} {dn : Nat} (o : Opv) (hk : o.kind = 4)
    (HS : Hid (SW w (((w.alloc (.cells #[.slice q1 no c1, .slice q2 n c2, .int .i64 fu, .bool dw, .int .i64 (dn : Int)] 33)).alloc (.cells #[.int .i64 o.kind, .int .i64 o.at_, .int .i64 o.n, .int .i64 o.torn, .int .i64 o.long, .int .u8 (o.fill : Int), .slice o.p o.nk o.ck] 39)).alloc (.cells #[.slice none 0 0, .slice none 0 0, .int .i64 0, .bool false, .int .i64 0] 33)) w.heap.size g F F (.slice q1 no c1) (.slice q2 n c2) m md o))
    (HE : Hid (m.fuse = fu ∧ m.down = dw ∧ m.done = dn)) :
    Calls Try.prog 13 #[.pointer (some ⟨g, 0, none⟩), .agg #[.slice q1 no c1, .slice q2 n c2, .int .i64 fu, .bool dw, .int .i64 (dn : Int)], .agg #[.int .i64 o.kind, .int .i64 o.at_, .int .i64 o.n, .int .i64 o.torn, .int .i64 o.long, .int .u8 (o.fill : Int), .slice o.p o.nk o.ck]] w (EndsD w g F (startM md) (startM m)) := by
  obtain ⟨kind, at_, num, torn, long, y, p, nk, ck, keep⟩ := o
  obtain rfl : kind = 4 := hk
  simp only at HS ⊢
  go_enter Try.func13, Try.ntmps13
  go_upto_region 1 with fail
  generalize ((w.alloc (.cells #[.slice q1 no c1, .slice q2 n c2, .int .i64 fu, .bool dw, .int .i64 (dn : Int)] 33)).alloc (.cells #[.int .i64 4, .int .i64 at_, .int .i64 num, .int .i64 torn, .int .i64 long, .int .u8 (y : Int), .slice p nk ck] 39)).alloc (.cells #[.slice none 0 0, .slice none 0 0, .int .i64 0, .bool false, .int .i64 0] 33) = w1 at *
  have o0 := HS.out.o.c0
  go_wp2_with fail
  refine HS.out.dk.start.mono ?_
  rintro e w2 ⟨rfl, hw⟩
  obtain ⟨F2, hs⟩ := HS.out.went hw
  have HS2 := Lib.hid hs
  clear hw hs HS o0
  have x0 := HS2.out.x.c0
  have x1 := HS2.out.x.c1
  have x2 := HS2.out.x.c2
  have x3 := HS2.out.x.c3
  have x4 := HS2.out.x.c4
  rw [HE.out.1] at x2
  rw [HE.out.2.1] at x3
  rw [HE.out.2.2] at x4
  go_wp2_with fail
  have hr : Ref w2 (.agg #[.slice q1 no c1, .slice q2 n c2, .int .i64 fu, .bool dw, .int .i64 (dn : Int)]) m := ⟨_, _, by unfold refV; rw [HE.out.1, HE.out.2.1, HE.out.2.2], HS2.out.ref⟩
  refine hr.start.mono ?_
  rintro e w3 ⟨⟨yv, rfl, hy⟩, hb⟩
  have HS3 := Lib.hid (HS2.out.below hb)
  obtain ⟨r1, d1, r2, d2, hyf⟩ := hy.form
  have HY := Lib.hid hy
  subst hyf
  clear hy hb hr x0 x1 x2 x3 x4 HS2
  obtain ⟨z0, z1, z2, z3, z4, hB⟩ := HS3.out.r
  have b0 := hB.c0
  have b1 := hB.c1
  have b2 := hB.c2
  have b3 := hB.c3
  have b4 := hB.c4
  have bf := hB.fz
  have HB := Lib.hid hB
  clear hB
  generalize (startM m).out.length = no2 at *
  generalize (startM m).row.length = n2 at *
  go_wp2_with fail
  exact bodyPost_ret (v := .tuple #[.agg #[.slice r1 no2 d1, .slice r2 n2 d2, .int .i64 (startM m).fuse, .bool (startM m).down, .int .i64 ((startM m).done : Int)], .bool true]) (by simp [results, Try.results13, go_sem, b0, b1, b2, b3, b4]) rfl (endsd_of (by omega) HS3.out.dk HY.out HS3.out.chg HB.out _ _ _ _ _)
set_option maxRecDepth 100000 in
set_option maxHeartbeats 3200000 in
theorem stepd_fuse {w : World} {g : Nat} {F : List Nat} {m md : Dsk} {q1 q2 : Option Addr} {no n c1 c2 : Nat} {fu : Int} {dw : Bool} {dn : Nat} (o : Opv) (hk : o.kind = 2) (hO : OpB o) (hK : Kp w o.p o.nk o.keep) (hOff : 0 < o.nk → Off F o.p) (hm : m.done ≤ 4611686018427387904 ∧ m.row.length ≤ 1099511627776 ∧ m.out.length ≤ 1099511627776) (hmd : md.done ≤ 4611686018427387904 ∧ md.row.length ≤ 1099511627776 ∧ md.out.length ≤ 1099511627776)
    (HS : Hid (SW w (((w.alloc (.cells #[.slice q1 no c1, .slice q2 n c2, .int .i64 fu, .bool dw, .int .i64 (dn : Int)] 33)).alloc (.cells #[.int .i64 o.kind, .int .i64 o.at_, .int .i64 o.n, .int .i64 o.torn, .int .i64 o.long, .int .u8 (o.fill : Int), .slice o.p o.nk o.ck] 39)).alloc (.cells #[.slice none 0 0, .slice none 0 0, .int .i64 0, .bool false, .int .i64 0] 33)) w.heap.size g F F (.slice q1 no c1) (.slice q2 n c2) m md o))
    (HE : Hid (m.fuse = fu ∧ m.down = dw ∧ m.done = dn)) :
    Calls Try.prog 13 #[.pointer (some ⟨g, 0, none⟩), .agg #[.slice q1 no c1, .slice q2 n c2, .int .i64 fu, .bool dw, .int .i64 (dn : Int)], .agg #[.int .i64 o.kind, .int .i64 o.at_, .int .i64 o.n, .int .i64 o.torn, .int .i64 o.long, .int .u8 (o.fill : Int), .slice o.p o.nk o.ck]] w (EndsD w g F (fuseM md o.n) (fuseM m o.n)) := by
  obtain ⟨kind, at_, num, torn, long, y, p, nk, ck, keep⟩ := o
  obtain rfl : kind = 2 := hk
  have HOP := Lib.hid hO
  obtain ⟨⟨hk1, hk2⟩, ⟨ha1, ha2⟩, ⟨hn1, hn2⟩, ⟨ht1, ht2⟩, ⟨hl1, hl2⟩, hy0, hnk⟩ := hO
  have HKO := Lib.hid (And.intro hK hOff)
  have HM := Lib.hid hm
  have HMD := Lib.hid hmd
  clear hK hOff hm hmd
  simp only at HS hk1 hk2 ha1 ha2 hn1 hn2 ht1 ht2 hl1 hl2 hy0 hnk HKO ⊢
  go_enter Try.func13, Try.ntmps13
  go_upto_region 1 with fail
  generalize ((w.alloc (.cells #[.slice q1 no c1, .slice q2 n c2, .int .i64 fu, .bool dw, .int .i64 (dn : Int)] 33)).alloc (.cells #[.int .i64 2, .int .i64 at_, .int .i64 num, .int .i64 torn, .int .i64 long, .int .u8 (y : Int), .slice p nk ck] 39)).alloc (.cells #[.slice none 0 0, .slice none 0 0, .int .i64 0, .bool false, .int .i64 0] 33) = w1 at *
  have o0 := HS.out.o.c0
  have o1 := HS.out.o.c1
  have o2 := HS.out.o.c2
  have o3 := HS.out.o.c3
  have o4 := HS.out.o.c4
  have o5 := HS.out.o.c5
  have o6 := HS.out.o.c6
  go_wp2_with fail
  refine (HS.out.dk.fuse num hn1 hn2).mono ?_
  rintro e w2 ⟨rfl, hw⟩
  obtain ⟨F2, hs⟩ := HS.out.went hw
  have HS2 := Lib.hid hs
  clear hw hs HS o0 o1 o2 o3 o4 o5 o6
  have o0 := HS2.out.o.c0
  have o1 := HS2.out.o.c1
  have o2 := HS2.out.o.c2
  have o3 := HS2.out.o.c3
  have o4 := HS2.out.o.c4
  have o5 := HS2.out.o.c5
  have o6 := HS2.out.o.c6
  have x0 := HS2.out.x.c0
  have x1 := HS2.out.x.c1
  have x2 := HS2.out.x.c2
  have x3 := HS2.out.x.c3
  have x4 := HS2.out.x.c4
  rw [HE.out.1] at x2
  rw [HE.out.2.1] at x3
  rw [HE.out.2.2] at x4
  go_wp2_with fail
  have hr : Ref w2 (.agg #[.slice q1 no c1, .slice q2 n c2, .int .i64 fu, .bool dw, .int .i64 (dn : Int)]) m := ⟨_, _, by unfold refV; rw [HE.out.1, HE.out.2.1, HE.out.2.2], HS2.out.ref⟩
  refine (hr.fuse num hn2).mono ?_
  rintro e w3 ⟨⟨yv, rfl, hy⟩, hb⟩
  have HS3 := Lib.hid (HS2.out.below hb)
  obtain ⟨r1, d1, r2, d2, hyf⟩ := hy.form
  have HY := Lib.hid hy
  subst hyf
  clear hy hb hr x0 x1 x2 x3 x4 o0 o1 o2 o3 o4 o5 o6 HS2
  obtain ⟨z0, z1, z2, z3, z4, hB⟩ := HS3.out.r
  have b0 := hB.c0
  have b1 := hB.c1
  have b2 := hB.c2
  have b3 := hB.c3
  have b4 := hB.c4
  have bf := hB.fz
  have HB := Lib.hid hB
  clear hB
  generalize (fuseM m num).out.length = no2 at *
  generalize (fuseM m num).row.length = n2 at *
  go_wp2_with fail
  exact bodyPost_ret (v := .tuple #[.agg #[.slice r1 no2 d1, .slice r2 n2 d2, .int .i64 (fuseM m num).fuse, .bool (fuseM m num).down, .int .i64 ((fuseM m num).done : Int)], .bool true]) (by simp [results, Try.results13, go_sem, b0, b1, b2, b3, b4]) rfl (endsd_of (by omega) HS3.out.dk HY.out HS3.out.chg HB.out _ _ _ _ _)
set_option maxRecDepth 100000 in
set_option maxHeartbeats 3200000 in
theorem stepd_fail {w : World} {g : Nat} {F : List Nat} {m md : Dsk} {q1 q2 : Option Addr} {no n c1 c2 : Nat} {fu : Int} {dw : Bool} {dn : Nat} (o : Opv) (hk : o.kind = 3) (hO : OpB o) (hK : Kp w o.p o.nk o.keep) (hOff : 0 < o.nk → Off F o.p) (hm : m.done ≤ 4611686018427387904 ∧ m.row.length ≤ 1099511627776 ∧ m.out.length ≤ 1099511627776) (hmd : md.done ≤ 4611686018427387904 ∧ md.row.length ≤ 1099511627776 ∧ md.out.length ≤ 1099511627776)
    (HS : Hid (SW w (((w.alloc (.cells #[.slice q1 no c1, .slice q2 n c2, .int .i64 fu, .bool dw, .int .i64 (dn : Int)] 33)).alloc (.cells #[.int .i64 o.kind, .int .i64 o.at_, .int .i64 o.n, .int .i64 o.torn, .int .i64 o.long, .int .u8 (o.fill : Int), .slice o.p o.nk o.ck] 39)).alloc (.cells #[.slice none 0 0, .slice none 0 0, .int .i64 0, .bool false, .int .i64 0] 33)) w.heap.size g F F (.slice q1 no c1) (.slice q2 n c2) m md o))
    (HE : Hid (m.fuse = fu ∧ m.down = dw ∧ m.done = dn)) :
    Calls Try.prog 13 #[.pointer (some ⟨g, 0, none⟩), .agg #[.slice q1 no c1, .slice q2 n c2, .int .i64 fu, .bool dw, .int .i64 (dn : Int)], .agg #[.int .i64 o.kind, .int .i64 o.at_, .int .i64 o.n, .int .i64 o.torn, .int .i64 o.long, .int .u8 (o.fill : Int), .slice o.p o.nk o.ck]] w (EndsD w g F (failM md (keepB o.nk o.keep) o.torn o.n) (failM m (keepB o.nk o.keep) o.torn o.n)) := by
  obtain ⟨kind, at_, num, torn, long, y, p, nk, ck, keep⟩ := o
  obtain rfl : kind = 3 := hk
  have HOP := Lib.hid hO
  obtain ⟨⟨hk1, hk2⟩, ⟨ha1, ha2⟩, ⟨hn1, hn2⟩, ⟨ht1, ht2⟩, ⟨hl1, hl2⟩, hy0, hnk⟩ := hO
  have HKO := Lib.hid (And.intro hK hOff)
  have HM := Lib.hid hm
  have HMD := Lib.hid hmd
  clear hK hOff hm hmd
  simp only at HS hk1 hk2 ha1 ha2 hn1 hn2 ht1 ht2 hl1 hl2 hy0 hnk HKO ⊢
  go_enter Try.func13, Try.ntmps13
  go_upto_region 1 with fail
  generalize ((w.alloc (.cells #[.slice q1 no c1, .slice q2 n c2, .int .i64 fu, .bool dw, .int .i64 (dn : Int)] 33)).alloc (.cells #[.int .i64 3, .int .i64 at_, .int .i64 num, .int .i64 torn, .int .i64 long, .int .u8 (y : Int), .slice p nk ck] 39)).alloc (.cells #[.slice none 0 0, .slice none 0 0, .int .i64 0, .bool false, .int .i64 0] 33) = w1 at *
  have o0 := HS.out.o.c0
  have o1 := HS.out.o.c1
  have o2 := HS.out.o.c2
  have o3 := HS.out.o.c3
  have o4 := HS.out.o.c4
  have o5 := HS.out.o.c5
  have o6 := HS.out.o.c6
  go_wp2_with fail
  refine (HS.out.dk.fail (by have := HMD.out; omega) p nk ck keep (HKO.out.1.chg HKO.out.2 HS.out.chg) HKO.out.2 hnk torn num).mono ?_
  rintro e w2 ⟨rfl, hw⟩
  obtain ⟨F2, hs⟩ := HS.out.went hw
  have HS2 := Lib.hid hs
  clear hw hs HS o0 o1 o2 o3 o4 o5 o6
  have o0 := HS2.out.o.c0
  have o1 := HS2.out.o.c1
  have o2 := HS2.out.o.c2
  have o3 := HS2.out.o.c3
  have o4 := HS2.out.o.c4
  have o5 := HS2.out.o.c5
  have o6 := HS2.out.o.c6
  have x0 := HS2.out.x.c0
  have x1 := HS2.out.x.c1
  have x2 := HS2.out.x.c2
  have x3 := HS2.out.x.c3
  have x4 := HS2.out.x.c4
  rw [HE.out.1] at x2
  rw [HE.out.2.1] at x3
  rw [HE.out.2.2] at x4
  go_wp2_with fail
  have hr : Ref w2 (.agg #[.slice q1 no c1, .slice q2 n c2, .int .i64 fu, .bool dw, .int .i64 (dn : Int)]) m := ⟨_, _, by unfold refV; rw [HE.out.1, HE.out.2.1, HE.out.2.2], HS2.out.ref⟩
  refine (hr.fail (by have := HM.out; omega) (by have := HM.out; omega) p nk ck keep (HKO.out.1.chg HKO.out.2 HS2.out.chg) hnk torn num).mono ?_
  rintro e w3 ⟨⟨yv, rfl, hy⟩, hb⟩
  have HS3 := Lib.hid (HS2.out.below hb)
  obtain ⟨r1, d1, r2, d2, hyf⟩ := hy.form
  have HY := Lib.hid hy
  subst hyf
  clear hy hb hr x0 x1 x2 x3 x4 o0 o1 o2 o3 o4 o5 o6 HS2
  obtain ⟨z0, z1, z2, z3, z4, hB⟩ := HS3.out.r
  have b0 := hB.c0
  have b1 := hB.c1
  have b2 := hB.c2
  have b3 := hB.c3
  have b4 := hB.c4
  have bf := hB.fz
  have HB := Lib.hid hB
  clear hB
  generalize (failM m (keepB nk keep) torn num).out.length = no2 at *
  generalize (failM m (keepB nk keep) torn num).row.length = n2 at *
  go_wp2_with fail
  exact bodyPost_ret (v := .tuple #[.agg #[.slice r1 no2 d1, .slice r2 n2 d2, .int .i64 (failM m (keepB nk keep) torn num).fuse, .bool (failM m (keepB nk keep) torn num).down, .int .i64 ((failM m (keepB nk keep) torn num).done : Int)], .bool true]) (by simp [results, Try.results13, go_sem, b0, b1, b2, b3, b4]) rfl (endsd_of (by omega) HS3.out.dk HY.out HS3.out.chg HB.out _ _ _ _ _)
end Go.Proofs.Ytdldjpgbifcljaa
