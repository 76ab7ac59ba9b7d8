/- A step of the law, its kinds that aren't a write. -/
import Derived.Test.YtdldjpgbifcljaaStep0
namespace Go.Proofs.Ytdldjpgbifcljaa
open Go.RowKit

theorem Ref.form {w : World} {x : Value} {m : Dsk} (h : Ref w x m) : ∃ q1 c1 q2 c2, x = .agg #[.slice q1 m.out.length c1, .slice q2 m.row.length c2, .int .i64 m.fuse, .bool m.down, .int .i64 (m.done : Int)] := by
  obtain ⟨vL, vR, e, h⟩ := h
  obtain ⟨⟨q1, c1, rfl⟩, q2, c2, rfl⟩ := h.forms
  exact ⟨q1, c1, q2, c2, e⟩
set_option maxRecDepth 100000 in
set_option maxHeartbeats 1600000 in
theorem step_start {w : World} {g : Nat} {F : List Nat} {m : Dsk} {q1 q2 : Option Addr} {no n c1 c2 : Nat} {fu : Int} {dw : Bool} {dn : Nat} (o : Opv) (hk : o.kind = 4)
    (HS : Hid (SW w (((w.alloc (.cells #[.slice q1 no c1, .slice q2 n c2, .int .i64 fu, .bool dw, .int .i64 (dn : Int)] 33)).alloc (.cells #[.int .i64 o.kind, .int .i64 o.at_, .int .i64 o.n, .int .i64 o.torn, .int .i64 o.long, .int .u8 (o.fill : Int), .slice o.p o.nk o.ck] 39)).alloc (.cells #[.slice none 0 0, .slice none 0 0, .int .i64 0, .bool false, .int .i64 0] 33)) w.heap.size g F F (.slice q1 no c1) (.slice q2 n c2) m m o))
    (HE : Hid (m.fuse = fu ∧ m.down = dw ∧ m.done = dn)) :
    Calls Try.prog 13 #[.pointer (some ⟨g, 0, none⟩), .agg #[.slice q1 no c1, .slice q2 n c2, .int .i64 fu, .bool dw, .int .i64 (dn : Int)], .agg #[.int .i64 o.kind, .int .i64 o.at_, .int .i64 o.n, .int .i64 o.torn, .int .i64 o.long, .int .u8 (o.fill : Int), .slice o.p o.nk o.ck]] w (Ends w g F (startM m)) := by
  obtain ⟨kind, at_, num, torn, long, y, p, nk, ck, keep⟩ := o
  obtain rfl : kind = 4 := hk
  simp only at HS ⊢
  go_enter Try.func13, Try.ntmps13
  go_upto_region 1 with fail
  generalize ((w.alloc (.cells #[.slice q1 no c1, .slice q2 n c2, .int .i64 fu, .bool dw, .int .i64 (dn : Int)] 33)).alloc (.cells #[.int .i64 4, .int .i64 at_, .int .i64 num, .int .i64 torn, .int .i64 long, .int .u8 (y : Int), .slice p nk ck] 39)).alloc (.cells #[.slice none 0 0, .slice none 0 0, .int .i64 0, .bool false, .int .i64 0] 33) = w1 at *
  have o0 := HS.out.o.c0
  go_wp2_with fail
  refine HS.out.dk.start.mono ?_
  rintro e w2 ⟨rfl, hw⟩
  obtain ⟨F2, hs⟩ := HS.out.went hw
  have HS2 := Lib.hid hs
  clear hw hs HS o0
  have x0 := HS2.out.x.c0
  have x1 := HS2.out.x.c1
  have x2 := HS2.out.x.c2
  have x3 := HS2.out.x.c3
  have x4 := HS2.out.x.c4
  rw [HE.out.1] at x2
  rw [HE.out.2.1] at x3
  rw [HE.out.2.2] at x4
  go_wp2_with fail
  have hr : Ref w2 (.agg #[.slice q1 no c1, .slice q2 n c2, .int .i64 fu, .bool dw, .int .i64 (dn : Int)]) m := ⟨_, _, by unfold refV; rw [HE.out.1, HE.out.2.1, HE.out.2.2], HS2.out.ref⟩
  refine hr.start.mono ?_
  rintro e w3 ⟨⟨yv, rfl, hy⟩, hb⟩
  have HS3 := Lib.hid (HS2.out.below hb)
  obtain ⟨r1, d1, r2, d2, hyf⟩ := hy.form
  have HY := Lib.hid hy
  subst hyf
  clear hy hb hr x0 x1 x2 x3 x4 HS2
  obtain ⟨z0, z1, z2, z3, z4, hB⟩ := HS3.out.r
  have b0 := hB.c0
  have b1 := hB.c1
  have b2 := hB.c2
  have b3 := hB.c3
  have b4 := hB.c4
  have bf := hB.fz
  have HB := Lib.hid hB
  clear hB
  generalize (startM m).out.length = no2 at *
  generalize (startM m).row.length = n2 at *
  go_wp2_with fail
  exact bodyPost_ret (v := .tuple #[.agg #[.slice r1 no2 d1, .slice r2 n2 d2, .int .i64 (startM m).fuse, .bool (startM m).down, .int .i64 ((startM m).done : Int)], .bool true]) (by simp [results, Try.results13, go_sem, b0, b1, b2, b3, b4]) rfl (ends_of (by omega) HS3.out.dk HY.out HS3.out.chg HB.out _ _ _ _ _)
end Go.Proofs.Ytdldjpgbifcljaa
