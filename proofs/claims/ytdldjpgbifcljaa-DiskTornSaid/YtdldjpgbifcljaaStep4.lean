/- A step of the law that is a write. -/
import Derived.Test.YtdldjpgbifcljaaStep1
import Derived.Deep.RegionHeld3
import Derived.Deep.DrawnRows
import Derived.Deep.CutBlock
import Derived.Deep.DeepCutAuto
namespace Go.Proofs.Ytdldjpgbifcljaa
open Go.RowKit

/-- A box apart from all is stored into: all else stays. -/
theorem SW.apart {w wx W5 : World} {b g q : Nat} {F Fx : List Nat} {x0 x1 : Value} {mx md : Dsk} {o : Opv} (h : SW w wx b g F Fx x0 x1 mx md o) {z0 z1 z2 z3 z4 : Value} (hB : Box5 wx q z0 z1 z2 z3 z4) (hq : b + 2 < q)
    (hall : ∀ j, j ≠ q → W5.heap[j]? = wx.heap[j]?) (hc : Chg F Fx w W5) : SW w W5 b g F Fx x0 x1 mx md o := by
  obtain ⟨y0, y1, y2, y3, y4, hr⟩ := h.r
  exact ⟨⟨(hall b (by omega)).trans h.x.hd⟩, ⟨(hall (b + 1) (by omega)).trans h.o.hd⟩, ⟨y0, y1, y2, y3, y4, ⟨(hall (b + 2) (by omega)).trans hr.hd⟩⟩, h.ref.apart hB hall, h.dk.apart hB hall, hc⟩
/-- Behind the document's write: its disk lies in a box of its own. -/
def Mid0 (w wx : World) (g : Nat) (F Fx : List Nat) (x0 x1 : Value) (mx md my : Dsk) (o : Opv) (q : Nat) (r1 r2 : Option Addr) (no2 d1 n2 d2 : Nat) : Prop :=
  SW w wx w.heap.size g F Fx x0 x1 mx md o ∧ Box5 wx q (.slice r1 no2 d1) (.slice r2 n2 d2) (.int .i64 my.fuse) (.bool my.down) (.int .i64 (my.done : Int)) ∧
  Ref wx (.agg #[.slice r1 no2 d1, .slice r2 n2 d2, .int .i64 my.fuse, .bool my.down, .int .i64 (my.done : Int)]) my ∧ w.heap.size + 2 < q
theorem mid0_late {w wb : World} {g : Nat} {F Fx : List Nat} {x0 x1 : Value} {mx md my : Dsk} {o : Opv} {r1 r2 : Option Addr} {no2 d1 n2 d2 : Nat} (h : SW w wb w.heap.size g F Fx x0 x1 mx md o)
    (hR : Ref wb (.agg #[.slice r1 no2 d1, .slice r2 n2 d2, .int .i64 my.fuse, .bool my.down, .int .i64 (my.done : Int)]) my) :
    Mid0 w (wb.alloc (.cells #[.slice r1 no2 d1, .slice r2 n2 d2, .int .i64 my.fuse, .bool my.down, .int .i64 (my.done : Int)] 33)) g F Fx x0 x1 mx md my o wb.heap.size r1 r2 no2 d1 n2 d2 := by
  have hb : Below wb.heap.size wb (wb.alloc (.cells #[.slice r1 no2 d1, .slice r2 n2 d2, .int .i64 my.fuse, .bool my.down, .int .i64 (my.done : Int)] 33)) := (Below.refl _ _).alloc (Nat.le_refl _) _
  obtain ⟨z0, z1, z2, z3, z4, hr⟩ := h.r
  exact ⟨h.below hb, ⟨heap_alloc_new wb _⟩, hR.below hb, hr.lt⟩
theorem mid0_early {w wb : World} {g q : Nat} {F Fx : List Nat} {x0 x1 : Value} {mx md my : Dsk} {o : Opv} {r1 r2 : Option Addr} {no2 d1 n2 d2 : Nat} (h : SW w wb w.heap.size g F Fx x0 x1 mx md o)
    (hR : Ref wb (.agg #[.slice r1 no2 d1, .slice r2 n2 d2, .int .i64 my.fuse, .bool my.down, .int .i64 (my.done : Int)]) my) {z0 z1 z2 z3 z4 : Value} (hB : Box5 wb q z0 z1 z2 z3 z4) (hq : w.heap.size + 2 < q) :
    Mid0 w (((((wb.setCell ⟨q, 0, none⟩ (.slice r1 no2 d1)).setCell ⟨q, 1, none⟩ (.slice r2 n2 d2)).setCell ⟨q, 2, none⟩ (.int .i64 my.fuse)).setCell ⟨q, 3, none⟩ (.bool my.down)).setCell ⟨q, 4, none⟩ (.int .i64 (my.done : Int))) g F Fx x0 x1 mx md my o q r1 r2 no2 d1 n2 d2 := by
  have hk : w.heap.size ≤ q := by omega
  have hall := five_other wb q (.slice r1 no2 d1) (.slice r2 n2 d2) (.int .i64 my.fuse) (.bool my.down) (.int .i64 (my.done : Int))
  exact ⟨h.apart hB hq hall (((((h.chg.set5 hk 0 _).set5 hk 1 _).set5 hk 2 _).set5 hk 3 _).set5 hk 4 _), ((((hB.set0 _).set1 _).set2 _).set3 _).set4 _, hR.apart hB hall, hq⟩
set_option maxRecDepth 100000 in
set_option maxHeartbeats 3200000 in
theorem step_put {w : World} {g : Nat} {F : List Nat} {m : Dsk} {q1 q2 : Option Addr} {no n c1 c2 : Nat} {fu : Int} {dw : Bool} {dn : Nat} (o : Opv) (hk : o.kind = 0) (hO : OpB o) (hK : Kp w o.p o.nk o.keep) (hOff : 0 < o.nk → Off F o.p) (hm : m.done ≤ 4611686018427387904 ∧ m.row.length ≤ 1099511627776 ∧ m.out.length ≤ 1099511627776)
    (HS : Hid (SW w (((w.alloc (.cells #[.slice q1 no c1, .slice q2 n c2, .int .i64 fu, .bool dw, .int .i64 (dn : Int)] 33)).alloc (.cells #[.int .i64 o.kind, .int .i64 o.at_, .int .i64 o.n, .int .i64 o.torn, .int .i64 o.long, .int .u8 (o.fill : Int), .slice o.p o.nk o.ck] 39)).alloc (.cells #[.slice none 0 0, .slice none 0 0, .int .i64 0, .bool false, .int .i64 0] 33)) w.heap.size g F F (.slice q1 no c1) (.slice q2 n c2) m m o))
    (HE : Hid (m.fuse = fu ∧ m.down = dw ∧ m.done = dn)) :
    Calls Try.prog 13 #[.pointer (some ⟨g, 0, none⟩), .agg #[.slice q1 no c1, .slice q2 n c2, .int .i64 fu, .bool dw, .int .i64 (dn : Int)], .agg #[.int .i64 o.kind, .int .i64 o.at_, .int .i64 o.n, .int .i64 o.torn, .int .i64 o.long, .int .u8 (o.fill : Int), .slice o.p o.nk o.ck]] w (Ends w g F (putM m o.at_ (fillS o))) := by
  obtain ⟨kind, at_, num, torn, long, y, p, nk, ck, keep⟩ := o
  obtain rfl : kind = 0 := hk
  have HOP := Lib.hid hO
  obtain ⟨⟨hk1, hk2⟩, ⟨ha1, ha2⟩, ⟨hn1, hn2⟩, ⟨ht1, ht2⟩, ⟨hl1, hl2⟩, hy0, hnk⟩ := hO
  have HKO := Lib.hid (And.intro hK hOff)
  have HM := Lib.hid hm
  clear hK hOff hm
  simp only at HS hk1 hk2 ha1 ha2 hn1 hn2 ht1 ht2 hl1 hl2 hy0 hnk HKO ⊢
  go_enter Try.func13, Try.ntmps13
  go_upto_region 1 with fail
  generalize ((w.alloc (.cells #[.slice q1 no c1, .slice q2 n c2, .int .i64 fu, .bool dw, .int .i64 (dn : Int)] 33)).alloc (.cells #[.int .i64 0, .int .i64 at_, .int .i64 num, .int .i64 torn, .int .i64 long, .int .u8 (y : Int), .slice p nk ck] 39)).alloc (.cells #[.slice none 0 0, .slice none 0 0, .int .i64 0, .bool false, .int .i64 0] 33) = w1 at *
  have o0 := HS.out.o.c0
  have o1 := HS.out.o.c1
  have o2 := HS.out.o.c2
  have o3 := HS.out.o.c3
  have o4 := HS.out.o.c4
  have o5 := HS.out.o.c5
  have o6 := HS.out.o.c6
  have HW1 : Hid (w.heap.size + 2 < w1.heap.size) := Lib.hid (by obtain ⟨z0, z1, z2, z3, z4, hB⟩ := HS.out.r; exact hB.lt)
  have x0 := HS.out.x.c0
  have x1 := HS.out.x.c1
  have x2 := HS.out.x.c2
  have x3 := HS.out.x.c3
  have x4 := HS.out.x.c4
  rw [HE.out.1] at x2
  rw [HE.out.2.1] at x3
  rw [HE.out.2.2] at x4
  have HRF : Hid (∀ (wx : World) (Fx : List Nat), SW w wx w.heap.size g F Fx (.slice q1 no c1) (.slice q2 n c2) m m ⟨0, at_, num, torn, long, y, p, nk, ck, keep⟩ → Ref wx (.agg #[.slice q1 no c1, .slice q2 n c2, .int .i64 fu, .bool dw, .int .i64 (dn : Int)]) m) := Lib.hid (fun wx Fx h => ⟨_, _, by unfold refV; rw [HE.out.1, HE.out.2.1, HE.out.2.2], h.ref⟩)
  have n0 : w1.heap.size ≠ w.heap.size := Nat.ne_of_gt HS.out.x.lt
  have n1 : w1.heap.size ≠ w.heap.size + 1 := Nat.ne_of_gt HS.out.o.lt
  go_upto_region 3 with fail
  go_cut [8, 9] (fun v8 v9 wx => ∃ q r1 no2 d1 r2 n2 d2, v8 = .pointer (some ⟨q, 0, none⟩) ∧ v9 = .int .i64 (putE m at_ (fillS ⟨0, at_, num, torn, long, y, p, nk, ck, keep⟩)) ∧ Hid (∃ Fx, Mid0 w wx g F Fx (.slice q1 no c1) (.slice q2 n c2) m m (putM m at_ (fillS ⟨0, at_, num, torn, long, y, p, nk, ck, keep⟩)) ⟨0, at_, num, torn, long, y, p, nk, ck, keep⟩ q r1 r2 no2 d1 n2 d2))
  case first =>
    go_region_held3 (fun w' => w'.cell? ⟨w.heap.size, 0, none⟩ = some (.slice q1 no c1) ∧ w'.cell? ⟨w.heap.size, 1, none⟩ = some (.slice q2 n c2) ∧ w'.cell? ⟨w.heap.size, 2, none⟩ = some (.int .i64 fu) ∧ w'.cell? ⟨w.heap.size, 3, none⟩ = some (.bool dw) ∧ w'.cell? ⟨w.heap.size, 4, none⟩ = some (.int .i64 (dn : Int)) ∧ w'.cell? ⟨w.heap.size + 1, 0, none⟩ = some (.int .i64 0) ∧ w'.cell? ⟨w.heap.size + 1, 1, none⟩ = some (.int .i64 at_) ∧ w'.cell? ⟨w.heap.size + 1, 2, none⟩ = some (.int .i64 num) ∧ w'.cell? ⟨w.heap.size + 1, 3, none⟩ = some (.int .i64 torn) ∧ w'.cell? ⟨w.heap.size + 1, 4, none⟩ = some (.int .i64 long) ∧ w'.cell? ⟨w.heap.size + 1, 5, none⟩ = some (.int .u8 (y : Int)) ∧ w'.cell? ⟨w.heap.size + 1, 6, none⟩ = some (.slice p nk ck)) (go_keep)
      (first
        | (go_at_call 20; refine (filled_any ⟨0, at_, num, torn, long, y, p, nk, ck, keep⟩ _ HOP.out).mono ?_; rintro e wa ⟨rfl, hba⟩; have HSa := Lib.hid (SW.below (by first | with_reducible exact HS.out.drew | with_reducible exact (HS.out.below ((Below.refl _ _).alloc (Nat.le_refl _) _)).drew | with_reducible exact HS.out.drew.below ((Below.refl _ _).alloc (Nat.le_refl _) _)) hba); (try have HQa := Lib.hid (Box5.below ((⟨heap_alloc_new w1 _⟩ : Box5 _ w1.heap.size (.slice none 0 0) (.slice none 0 0) (.int .i64 0) (.bool false) (.int .i64 0)).below (Below.refl _ _).drew) hba)); have x0 := HSa.out.x.c0; have x1 := HSa.out.x.c1; have x2 := HSa.out.x.c2; have x3 := HSa.out.x.c3; have x4 := HSa.out.x.c4; rw [HE.out.1] at x2; rw [HE.out.2.1] at x3; rw [HE.out.2.2] at x4; have o0 := HSa.out.o.c0; have o1 := HSa.out.o.c1; have o2 := HSa.out.o.c2; have o3 := HSa.out.o.c3; have o4 := HSa.out.o.c4; have o5 := HSa.out.o.c5; have o6 := HSa.out.o.c6; clear hba)
        | (go_at_call 29; refine (Ref.put (by first | with_reducible exact HRF.out _ _ HSa.out | with_reducible exact (HRF.out _ _ HSa.out).below ((Below.refl _ _).alloc (Nat.le_refl _) _)) at_ (fillS ⟨0, at_, num, torn, long, y, p, nk, ck, keep⟩) (fillS_dig hy0) HM.out.1 HM.out.2.1).mono ?_; rintro e wb ⟨⟨yv, rfl, hyr⟩, hbb⟩; have na0 : wa.heap.size ≠ w.heap.size := Nat.ne_of_gt HSa.out.x.lt; have na1 : wa.heap.size ≠ w.heap.size + 1 := Nat.ne_of_gt HSa.out.o.lt; have HSb := Lib.hid (SW.below (by first | with_reducible exact HSa.out | with_reducible exact HSa.out.below ((Below.refl _ _).alloc (Nat.le_refl _) _)) hbb); (first | (have HQb := Lib.hid (HQa.out.below hbb)) | (have HQb := Lib.hid (Box5.below (⟨heap_alloc_new _ _⟩ : Box5 _ wa.heap.size (.slice none 0 0) (.slice none 0 0) (.int .i64 0) (.bool false) (.int .i64 0)) hbb)) | skip); (try (have v0 := HQb.out.c0; have v1 := HQb.out.c1; have v2 := HQb.out.c2; have v3 := HQb.out.c3; have v4 := HQb.out.c4; have vf := HQb.out.fz)); obtain ⟨r1, d1, r2, d2, hyf⟩ := hyr.form; have HY := Lib.hid hyr; subst hyf; have x0 := HSb.out.x.c0; have x1 := HSb.out.x.c1; have x2 := HSb.out.x.c2; have x3 := HSb.out.x.c3; have x4 := HSb.out.x.c4; rw [HE.out.1] at x2; rw [HE.out.2.1] at x3; rw [HE.out.2.2] at x4; have o0 := HSb.out.o.c0; have o1 := HSb.out.o.c1; have o2 := HSb.out.o.c2; have o3 := HSb.out.o.c3; have o4 := HSb.out.o.c4; have o5 := HSb.out.o.c5; have o6 := HSb.out.o.c6; clear hbb hyr))
    all_goals
      go_wp2_with fail
      go_meet
      first
        | have hqb := HQb.out
          exact ⟨_, _, _, _, _, _, _, rfl, rfl, Lib.hid ⟨_, mid0_early HSb.out HY.out hqb (by first | exact HW1.out | (obtain ⟨z0, z1, z2, z3, z4, hB⟩ := HSa.out.r; exact hB.lt))⟩⟩
        | exact ⟨_, _, _, _, _, _, _, rfl, rfl, Lib.hid ⟨_, mid0_late HSb.out HY.out⟩⟩
  case rest =>
    obtain ⟨q, r1, no2, d1, r2, n2, d2, rfl, rfl, hcut⟩ := hcut
    obtain ⟨Fx, hS2, hQ2, hY2, hq2⟩ := hcut.out
    have HS2 := Lib.hid hS2
    have HQ2 := Lib.hid hQ2
    have HY2 := Lib.hid hY2
    have hqa : w.heap.size + 1 + 1 ≠ q := by omega
    have hqb : w.heap.size + 1 + 1 ≠ w.heap.size + 1 := by omega
    clear hcut hS2 hQ2 hY2 hq2 HS HRF HW1 n0 n1 x0 x1 x2 x3 x4 o0 o1 o2 o3 o4 o5 o6
    generalize (putM m at_ (fillS ⟨0, at_, num, torn, long, y, p, nk, ck, keep⟩)).fuse = fu2 at *
    generalize (putM m at_ (fillS ⟨0, at_, num, torn, long, y, p, nk, ck, keep⟩)).down = dw2 at *
    generalize (putM m at_ (fillS ⟨0, at_, num, torn, long, y, p, nk, ck, keep⟩)).done = dn2 at *
    have y0 := HQ2.out.c0
    have y1 := HQ2.out.c1
    have y2 := HQ2.out.c2
    have y3 := HQ2.out.c3
    have y4 := HQ2.out.c4
    have o0 := HS2.out.o.c0
    have o1 := HS2.out.o.c1
    have o2 := HS2.out.o.c2
    have o3 := HS2.out.o.c3
    have o4 := HS2.out.o.c4
    have o5 := HS2.out.o.c5
    have o6 := HS2.out.o.c6
    generalize hBE : putE m at_ (fillS ⟨0, at_, num, torn, long, y, p, nk, ck, keep⟩) = BE at *
    go_upto_region 4 with fail
    go_region_held3 (fun w' => w'.cell? ⟨q, 0, none⟩ = some (.slice r1 no2 d1) ∧ w'.cell? ⟨q, 1, none⟩ = some (.slice r2 n2 d2) ∧ w'.cell? ⟨q, 2, none⟩ = some (.int .i64 fu2) ∧ w'.cell? ⟨q, 3, none⟩ = some (.bool dw2) ∧ w'.cell? ⟨q, 4, none⟩ = some (.int .i64 (dn2 : Int)) ∧ w'.cell? ⟨w.heap.size + 1, 0, none⟩ = some (.int .i64 0) ∧ w'.cell? ⟨w.heap.size + 1, 1, none⟩ = some (.int .i64 at_) ∧ w'.cell? ⟨w.heap.size + 1, 2, none⟩ = some (.int .i64 num) ∧ w'.cell? ⟨w.heap.size + 1, 3, none⟩ = some (.int .i64 torn) ∧ w'.cell? ⟨w.heap.size + 1, 4, none⟩ = some (.int .i64 long) ∧ w'.cell? ⟨w.heap.size + 1, 5, none⟩ = some (.int .u8 (y : Int)) ∧ w'.cell? ⟨w.heap.size + 1, 6, none⟩ = some (.slice p nk ck)) (go_keep)
      (first
        | (go_at_call 20; refine (filled_any ⟨0, at_, num, torn, long, y, p, nk, ck, keep⟩ _ HOP.out).mono ?_; rintro e wa ⟨rfl, hba⟩; have HSa := Lib.hid (SW.below HS2.out.drew hba); have HQa := Lib.hid ((HQ2.out.below (Below.refl _ _).drew).below hba); have HYa := Lib.hid ((HY2.out.below (Below.refl _ _).drew).below hba); have y0 := HQa.out.c0; have y1 := HQa.out.c1; have y2 := HQa.out.c2; have y3 := HQa.out.c3; have y4 := HQa.out.c4; have o0 := HSa.out.o.c0; have o1 := HSa.out.o.c1; have o2 := HSa.out.o.c2; have o3 := HSa.out.o.c3; have o4 := HSa.out.o.c4; have o5 := HSa.out.o.c5; have o6 := HSa.out.o.c6; clear hba)
        | (go_at_call 19; refine (put_any HSa.out.dk at_ (fillS ⟨0, at_, num, torn, long, y, p, nk, ck, keep⟩) (fillS_dig hy0) HM.out.1 HM.out.2.1).mono ?_; rintro e wb ⟨rfl, hw⟩; obtain ⟨F2, hs⟩ := HSa.out.went hw; have HSb := Lib.hid hs; obtain ⟨F3, hD3, hC3⟩ := hw; have HQb := Lib.hid (HQa.out.chg hC3 HSa.out.dk.typed); have HYb := Lib.hid (HYa.out.chg hC3 HSa.out.dk.typed); have y0 := HQb.out.c0; have y1 := HQb.out.c1; have y2 := HQb.out.c2; have y3 := HQb.out.c3; have y4 := HQb.out.c4; have o0 := HSb.out.o.c0; have o1 := HSb.out.o.c1; have o2 := HSb.out.o.c2; have o3 := HSb.out.o.c3; have o4 := HSb.out.o.c4; have o5 := HSb.out.o.c5; have o6 := HSb.out.o.c6; obtain ⟨z0, z1, z2, z3, z4, hB⟩ := HSb.out.r; have HB := Lib.hid hB; have b0 := hB.c0; have b1 := hB.c1; have b2 := hB.c2; have b3 := hB.c3; have b4 := hB.c4; have bf := hB.fz; clear hB hs hD3 hC3))
    go_wp2_with fail
    exact bodyPost_ret (v := .tuple #[.agg #[.slice r1 no2 d1, .slice r2 n2 d2, .int .i64 fu2, .bool dw2, .int .i64 (dn2 : Int)], .bool true]) (by simp [results, Try.results13, go_sem, b0, b1, b2, b3, b4]) rfl (ends_of (by omega) HSb.out.dk HYb.out HSb.out.chg HB.out _ _ _ _ _)
end Go.Proofs.Ytdldjpgbifcljaa
