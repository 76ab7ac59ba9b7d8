/- A step of the law: its other kinds. -/
import Derived.Test.YtldkmkgkllgckaaDoorStep
set_option linter.unusedSimpArgs false
namespace Go.Proofs.YtldkmkgkllgckaaDoor
open Go.RowKit

/-- Behind the document's half of a step. -/
structure Cu (w wx : World) (a : Value) (l : List Sl) (o : Opv) : Prop where
  below : Below w.heap.size w wx
  ref : Rf wx a l
  box : Sb wx w.heap.size o
section
variable {w : World} {g : Nat} {F : List Nat} {x : Value} {l : List Sl}
set_option maxRecDepth 20000 in
set_option maxHeartbeats 1600000 in
theorem step_drop (hP : Pg w g F l) (hx : Rf w x l) (o : Opv) (hO : OpB o) (hk : o.kind = 2) : Calls Tryd.prog 25 #[.pointer (some ⟨g, 0, none⟩), x, o.val] w (Ends w g F (dropL l o.i)) := by
  have HB0 : Hid (Below w.heap.size w (w.alloc (.cells #[.int .i64 o.kind, .int .i64 o.i, .int .i64 o.long, .int .u8 (o.fill : Int)] 35))) := Lib.hid ((Below.refl _ _).alloc (Nat.le_refl _) _)
  have HS0 : Hid (Sb (w.alloc (.cells #[.int .i64 o.kind, .int .i64 o.i, .int .i64 o.long, .int .u8 (o.fill : Int)] 35)) w.heap.size o) := Lib.hid ⟨heap_alloc_new w _⟩
  have HP := Lib.hid hP
  have HX := Lib.hid hx
  have HRC : Hid (∀ w1, Calls Tryd.prog 12 #[.agg #[.int .i64 o.kind, .int .i64 o.i, .int .i64 o.long, .int .u8 (o.fill : Int)]] w1 fun e w' => e = .returned (.string (recS o)) ∧ Below w1.heap.size w1 w') := Lib.hid (fun w1 => rec_any o w1 hO)
  have hsz := recS_le o
  show Calls Tryd.prog 25 #[.pointer (some ⟨g, 0, none⟩), x, .agg #[.int .i64 o.kind, .int .i64 o.i, .int .i64 o.long, .int .u8 (o.fill : Int)]] w _
  obtain ⟨kind, i, long, y⟩ := o
  obtain rfl : kind = 2 := hk
  simp only at HB0 HS0 HRC hsz ⊢
  obtain ⟨hk1, hk2, hk3, hk4⟩ := hO
  clear hP hx hk1 hk2 hk3 hk4
  have HOKP := Lib.hid HP.out.ok
  obtain ⟨q, c, rfl⟩ := HX.out.form
  go_enter Tryd.func25, Tryd.ntmps25
  go_upto_region 1 with fail
  generalize w.alloc (.cells #[.int .i64 2, .int .i64 i, .int .i64 long, .int .u8 (y : Int)] 35) = w0 at *
  have a0 := HS0.out.c0
  have a1 := HS0.out.c1
  have a2 := HS0.out.c2
  have a3 := HS0.out.c3
  go_wp2_with fail
  refine (rdrop_any (HX.out.below HB0.out) HOKP.out i).mono ?_
  rintro e w2 ⟨⟨v', rfl, hm⟩, hb⟩
  have HB2 := Lib.hid (HB0.out.trans (hb.mono HB0.out.size))
  have HS2 := Lib.hid (HS0.out.below hb)
  have HM := Lib.hid hm
  clear hb hm a0 a1 a2 a3
  have a0 := HS2.out.c0
  have a1 := HS2.out.c1
  have a2 := HS2.out.c2
  have a3 := HS2.out.c3
  obtain ⟨v, hP0, hF⟩ := HP.out.below HB2.out
  have HF := Lib.hid hF
  have HT := Lib.hid hP0.typed
  have HA := Lib.hid (drop_any hP0 i)
  clear hP0 hF
  go_wp2_with fail
  refine HA.out.mono ?_
  rintro e w4 ⟨rfl, F2, hP2, hc⟩
  have HP2 := Lib.hid hP2
  have HC := Lib.hid hc
  have hmm := HM.out.chg hc HT.out
  have HMM := Lib.hid hmm
  clear hP2 hc hmm HM
  have e1 : (fullI l i == fullI l i) = true := by simp
  go_wp2_with fail
  go_ret2
  exact ⟨_, F2, by simp, HP2.out, HMM.out, by rw [HF.out]; exact (Chg.of_below HB2.out).trans HC.out⟩
set_option maxRecDepth 20000 in
set_option maxHeartbeats 1600000 in
theorem step_put (hP : Pg w g F l) (hx : Rf w x l) (o : Opv) (hO : OpB o) (hk : o.kind = 1) : Calls Tryd.prog 25 #[.pointer (some ⟨g, 0, none⟩), x, o.val] w (Ends w g F (putL l o.i (recS o))) := by
  have HB0 : Hid (Below w.heap.size w (w.alloc (.cells #[.int .i64 o.kind, .int .i64 o.i, .int .i64 o.long, .int .u8 (o.fill : Int)] 35))) := Lib.hid ((Below.refl _ _).alloc (Nat.le_refl _) _)
  have HS0 : Hid (Sb (w.alloc (.cells #[.int .i64 o.kind, .int .i64 o.i, .int .i64 o.long, .int .u8 (o.fill : Int)] 35)) w.heap.size o) := Lib.hid ⟨heap_alloc_new w _⟩
  have HP := Lib.hid hP
  have HX := Lib.hid hx
  have HRC : Hid (∀ w1, Calls Tryd.prog 12 #[.agg #[.int .i64 o.kind, .int .i64 o.i, .int .i64 o.long, .int .u8 (o.fill : Int)]] w1 fun e w' => e = .returned (.string (recS o)) ∧ Below w1.heap.size w1 w') := Lib.hid (fun w1 => rec_any o w1 hO)
  have hsz := recS_le o
  show Calls Tryd.prog 25 #[.pointer (some ⟨g, 0, none⟩), x, .agg #[.int .i64 o.kind, .int .i64 o.i, .int .i64 o.long, .int .u8 (o.fill : Int)]] w _
  obtain ⟨kind, i, long, y⟩ := o
  obtain rfl : kind = 1 := hk
  simp only at HB0 HS0 HRC hsz ⊢
  obtain ⟨hk1, hk2, hk3, hk4⟩ := hO
  clear hP hx hk1 hk2 hk3 hk4
  have HOKP := Lib.hid HP.out.ok
  generalize hrr : recS { kind := 1, i := i, long := long, fill := y } = r at *
  clear hrr
  obtain ⟨q, c, rfl⟩ := HX.out.form
  go_enter Tryd.func25, Tryd.ntmps25
  go_upto_region 1 with fail
  generalize w.alloc (.cells #[.int .i64 1, .int .i64 i, .int .i64 long, .int .u8 (y : Int)] 35) = w0 at *
  have a0 := HS0.out.c0
  have a1 := HS0.out.c1
  have a2 := HS0.out.c2
  have a3 := HS0.out.c3
  go_upto_region 7 with fail
  go_cut [13, 14] (fun a b wx => b = .int .i64 (putE l i r : Int) ∧ Hid (Cu w wx a (putL l i r) ⟨1, i, long, y⟩))
  case first =>
    go_region_with (first
      | (go_at_call 12; refine (HRC.out _).mono ?_; rintro e w1 ⟨rfl, hb⟩; have HB1 : Hid (Below w.heap.size w w1) := Lib.hid (by first | exact HB0.out.trans (hb.mono HB0.out.size) | exact HB0.out.drew.trans (hb.mono HB0.out.size)); have HS1 : Hid (Sb w1 w.heap.size ⟨1, i, long, y⟩) := Lib.hid (by first | exact HS0.out.below hb | exact HS0.out.below (((Below.refl _ _).drew).trans hb)); have a0 := HS1.out.c0; have a1 := HS1.out.c1; have a2 := HS1.out.c2; have a3 := HS1.out.c3; clear hb)
      | (go_at_call 35; refine (rput_any (HX.out.below HB1.out) HOKP.out i r (by omega)).mono ?_; rintro e w2 ⟨⟨v', rfl, hm⟩, hb⟩; have HB2 := Lib.hid (HB1.out.trans (hb.mono HB1.out.size)); have HS2 := Lib.hid (HS1.out.below hb); have HM := Lib.hid hm; clear hb hm))
    all_goals
      go_wp2_with fail
      go_meet
      exact ⟨rfl, Lib.hid ⟨HB2.out, HM.out, HS2.out⟩⟩
  case rest =>
    obtain ⟨rfl, HC0⟩ := hcut
    have HBc := Lib.hid HC0.out.below
    have a0 := HC0.out.box.c0
    have a1 := HC0.out.box.c1
    have a2 := HC0.out.box.c2
    have a3 := HC0.out.box.c3
    have e2 : (((putE l i r : Nat) : Int) == ((putE l i r : Nat) : Int)) = true := by simp
    go_upto_region 8 with fail
    go_region_with (first
      | (go_at_call 12; refine (HRC.out _).mono ?_; rintro e w1 ⟨rfl, hb⟩; have HB1 : Hid (Below wc.heap.size wc w1) := Lib.hid (by first | exact hb | exact ((Below.refl _ _).drew).trans hb); have HS1 := Lib.hid (HC0.out.box.below HB1.out); have a0 := HS1.out.c0; have a1 := HS1.out.c1; have a2 := HS1.out.c2; have a3 := HS1.out.c3; clear hb)
      | (go_at_call 13; obtain ⟨v, hP0, hF⟩ := HP.out.below (HBc.out.trans (HB1.out.mono HBc.out.size)); have HF := Lib.hid hF; have HT := Lib.hid hP0.typed; refine (put_any hP0 i r (by omega)).mono ?_; rintro e w2 ⟨rfl, F2, hP2, hc⟩; have HP2 := Lib.hid hP2; have HC := Lib.hid hc; have HMM := Lib.hid ((HC0.out.ref.below HB1.out).chg hc HT.out); clear hP2 hc hP0 hF))
    all_goals
      go_wp2_with fail
      go_ret2
      exact ⟨_, F2, rfl, HP2.out, HMM.out, by rw [HF.out]; exact (Chg.of_below (HBc.out.trans (HB1.out.mono HBc.out.size))).trans HC.out⟩
end
end Go.Proofs.YtldkmkgkllgckaaDoor
