/- A step of the law that is a barrier. -/
import Derived.Test.YtdldjpgbifcljaaStep1
import Derived.Deep.RegionHeld3
import Derived.Deep.DrawnRows
import Derived.Deep.CutBlock
import Derived.Deep.DeepCutAuto
namespace Go.Proofs.Ytdldjpgbifcljaa
open Go.RowKit

set_option maxRecDepth 100000 in
set_option maxHeartbeats 3200000 in
theorem step_bar {w : World} {g : Nat} {F : List Nat} {m : Dsk} {q1 q2 : Option Addr} {no n c1 c2 : Nat} {fu : Int} {dw : Bool} {dn : Nat} (o : Opv) (hk : o.kind = 1) (hO : OpB o) (hK : Kp w o.p o.nk o.keep) (hOff : 0 < o.nk → Off F o.p) (hm : m.done ≤ 4611686018427387904 ∧ m.row.length ≤ 1099511627776 ∧ m.out.length ≤ 1099511627776)
    (HS : Hid (SW w (((w.alloc (.cells #[.slice q1 no c1, .slice q2 n c2, .int .i64 fu, .bool dw, .int .i64 (dn : Int)] 33)).alloc (.cells #[.int .i64 o.kind, .int .i64 o.at_, .int .i64 o.n, .int .i64 o.torn, .int .i64 o.long, .int .u8 (o.fill : Int), .slice o.p o.nk o.ck] 39)).alloc (.cells #[.slice none 0 0, .slice none 0 0, .int .i64 0, .bool false, .int .i64 0] 33)) w.heap.size g F F (.slice q1 no c1) (.slice q2 n c2) m m o))
    (HE : Hid (m.fuse = fu ∧ m.down = dw ∧ m.done = dn)) :
    Calls Try.prog 13 #[.pointer (some ⟨g, 0, none⟩), .agg #[.slice q1 no c1, .slice q2 n c2, .int .i64 fu, .bool dw, .int .i64 (dn : Int)], .agg #[.int .i64 o.kind, .int .i64 o.at_, .int .i64 o.n, .int .i64 o.torn, .int .i64 o.long, .int .u8 (o.fill : Int), .slice o.p o.nk o.ck]] w (Ends w g F (barM m)) := by
  obtain ⟨kind, at_, num, torn, long, y, p, nk, ck, keep⟩ := o
  obtain rfl : kind = 1 := hk
  have HOP := Lib.hid hO
  obtain ⟨⟨hk1, hk2⟩, ⟨ha1, ha2⟩, ⟨hn1, hn2⟩, ⟨ht1, ht2⟩, ⟨hl1, hl2⟩, hy0, hnk⟩ := hO
  have HKO := Lib.hid (And.intro hK hOff)
  have HM := Lib.hid hm
  clear hK hOff hm
  simp only at HS hk1 hk2 ha1 ha2 hn1 hn2 ht1 ht2 hl1 hl2 hy0 hnk HKO ⊢
  go_enter Try.func13, Try.ntmps13
  go_upto_region 1 with fail
  generalize ((w.alloc (.cells #[.slice q1 no c1, .slice q2 n c2, .int .i64 fu, .bool dw, .int .i64 (dn : Int)] 33)).alloc (.cells #[.int .i64 1, .int .i64 at_, .int .i64 num, .int .i64 torn, .int .i64 long, .int .u8 (y : Int), .slice p nk ck] 39)).alloc (.cells #[.slice none 0 0, .slice none 0 0, .int .i64 0, .bool false, .int .i64 0] 33) = w1 at *
  have o0 := HS.out.o.c0
  have o1 := HS.out.o.c1
  have o2 := HS.out.o.c2
  have o3 := HS.out.o.c3
  have o4 := HS.out.o.c4
  have o5 := HS.out.o.c5
  have o6 := HS.out.o.c6
  have x0 := HS.out.x.c0
  have x1 := HS.out.x.c1
  have x2 := HS.out.x.c2
  have x3 := HS.out.x.c3
  have x4 := HS.out.x.c4
  rw [HE.out.1] at x2
  rw [HE.out.2.1] at x3
  rw [HE.out.2.2] at x4
  go_wp2_with fail
  have hr : Ref w1 (.agg #[.slice q1 no c1, .slice q2 n c2, .int .i64 fu, .bool dw, .int .i64 (dn : Int)]) m := ⟨_, _, by unfold refV; rw [HE.out.1, HE.out.2.1, HE.out.2.2], HS.out.ref⟩
  refine (hr.barrier (by have := HM.out; omega) (by have := HM.out; omega) (by have := HM.out; omega)).mono ?_
  rintro e w3 ⟨⟨yv, rfl, hy⟩, hb⟩
  have HS3 := Lib.hid (HS.out.below hb)
  obtain ⟨r1, d1, r2, d2, hyf⟩ := hy.form
  have HY := Lib.hid hy
  subst hyf
  clear hy hb hr x0 x1 x2 x3 x4 o0 o1 o2 o3 o4 o5 o6 HS
  generalize (barM m).out.length = no2 at *
  generalize (barM m).row.length = n2 at *
  go_wp2_with fail
  have HS4 := Lib.hid (HS3.out.below ((Below.refl w3.heap.size w3).alloc (Nat.le_refl _) (.cells #[.slice r1 no2 d1, .slice r2 n2 d2, .int .i64 (barM m).fuse, .bool (barM m).down, .int .i64 ((barM m).done : Int)] 33)))
  have HY4 := Lib.hid (HY.out.below ((Below.refl w3.heap.size w3).alloc (Nat.le_refl _) (.cells #[.slice r1 no2 d1, .slice r2 n2 d2, .int .i64 (barM m).fuse, .bool (barM m).down, .int .i64 ((barM m).done : Int)] 33)))
  have HQ4 : Hid (Box5 (w3.alloc (.cells #[.slice r1 no2 d1, .slice r2 n2 d2, .int .i64 (barM m).fuse, .bool (barM m).down, .int .i64 ((barM m).done : Int)] 33)) w3.heap.size (.slice r1 no2 d1) (.slice r2 n2 d2) (.int .i64 (barM m).fuse) (.bool (barM m).down) (.int .i64 ((barM m).done : Int))) := Lib.hid ⟨heap_alloc_new w3 _⟩
  have hq : w.heap.size + 2 ≠ w3.heap.size := by
    obtain ⟨z0, z1, z2, z3, z4, hB⟩ := HS3.out.r
    exact Nat.ne_of_lt hB.lt
  clear HS3 HY
  generalize w3.alloc (.cells #[.slice r1 no2 d1, .slice r2 n2 d2, .int .i64 (barM m).fuse, .bool (barM m).down, .int .i64 ((barM m).done : Int)] 33) = w4 at *
  generalize w3.heap.size = q at *
  have y0 := HQ4.out.c0
  have y1 := HQ4.out.c1
  have y2 := HQ4.out.c2
  have y3 := HQ4.out.c3
  have y4 := HQ4.out.c4
  obtain ⟨z0, z1, z2, z3, z4, hB⟩ := HS4.out.r
  have b0 := hB.c0
  have b1 := hB.c1
  have b2 := hB.c2
  have b3 := hB.c3
  have b4 := hB.c4
  have bf := hB.fz
  have HB := Lib.hid hB
  clear hB
  generalize (barM m).fuse = fu2 at *
  generalize (barM m).down = dw2 at *
  generalize (barM m).done = dn2 at *
  generalize hBE : barE m = BE at *
  clear b0 b1 b2 b3 b4 bf HB
  go_region_held3 (fun w' => w'.cell? ⟨q, 0, none⟩ = some (.slice r1 no2 d1) ∧ w'.cell? ⟨q, 1, none⟩ = some (.slice r2 n2 d2) ∧ w'.cell? ⟨q, 2, none⟩ = some (.int .i64 fu2) ∧ w'.cell? ⟨q, 3, none⟩ = some (.bool dw2) ∧ w'.cell? ⟨q, 4, none⟩ = some (.int .i64 (dn2 : Int)))
    (first | go_keep | ((repeat' apply And.intro) <;> assumption))
    (first | (go_at_call 17; refine (barrier_any HS4.out.drew.dk (by have := HM.out; omega) (by have := HM.out; omega)).mono ?_; rintro e w5 ⟨rfl, hw⟩; rw [hBE]; obtain ⟨F2, hs⟩ := HS4.out.drew.went hw; have HS5 := Lib.hid hs; obtain ⟨F3, hD3, hC3⟩ := hw; have hQ5 := (HQ4.out.below (Below.refl _ _).drew).chg hC3 HS4.out.drew.dk.typed; have HY5 := Lib.hid ((HY4.out.below (Below.refl _ _).drew).chg hC3 HS4.out.drew.dk.typed); have u0 := hQ5.c0; have u1 := hQ5.c1; have u2 := hQ5.c2; have u3 := hQ5.c3; have u4 := hQ5.c4; obtain ⟨z0, z1, z2, z3, z4, hB⟩ := HS5.out.r; have HB := Lib.hid hB; have b0 := hB.c0; have b1 := hB.c1; have b2 := hB.c2; have b3 := hB.c3; have b4 := hB.c4; have bf := hB.fz; clear hB hQ5 hs hD3 hC3))
  go_wp2_with fail
  exact bodyPost_ret (v := .tuple #[.agg #[.slice r1 no2 d1, .slice r2 n2 d2, .int .i64 fu2, .bool dw2, .int .i64 (dn2 : Int)], .bool true]) (by simp [results, Try.results13, go_sem, b0, b1, b2, b3, b4]) rfl (ends_of (by omega) HS5.out.dk HY5.out HS5.out.chg HB.out _ _ _ _ _)
end Go.Proofs.Ytdldjpgbifcljaa
