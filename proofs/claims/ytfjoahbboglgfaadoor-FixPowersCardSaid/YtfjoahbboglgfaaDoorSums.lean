/- The law FixSums returns true for any two numbers. -/
import Derived.Test.YtfjoahbboglgfaaDoorVals
namespace Go.Proofs.YtfjoahbboglgfaaDoor
open Go.ChangeShapes Go.WideShapes Go.ChangeAt Go.RowKit

/-- A number in a variable of the call's own. -/
def NumBlk (w : World) (g : Nat) (x : Bool) (A : Option Addr) (n c : Nat) : Prop := w.heap[g]? = some (.cells #[.bool x, .slice A n c] 24 (0, 0))
theorem NumBlk.c0 {w : World} {g : Nat} {x : Bool} {A : Option Addr} {n c : Nat} (h : NumBlk w g x A n c) : w.cell? ⟨g, 0, none⟩ = some (.bool x) := by have := blk_cell h 0; simpa using this
theorem NumBlk.c1 {w : World} {g : Nat} {x : Bool} {A : Option Addr} {n c : Nat} (h : NumBlk w g x A n c) : w.cell? ⟨g, 1, none⟩ = some (.slice A n c) := by have := blk_cell h 1; simpa using this
theorem NumBlk.below {w w' : World} {g : Nat} {x : Bool} {A : Option Addr} {n c : Nat} (h : NumBlk w g x A n c) (hb : Below w.heap.size w w') : NumBlk w' g x A n c := bcell hb h

theorem sum_len {ds : List Nat} {m n m' n' : Nat} (h : Canon ds) (hv : val ds ≤ m + n) (hm : m = m') (hn : n = n') (hm2 : m' ≤ 9223372036854775808) (hn2 : n' ≤ 9223372036854775808) : ds.length ≤ 20 :=
  canon_len h 20 (by have h3 : (10 : Nat) ^ 20 = 100000000000000000000 := by decide
                     omega)

set_option maxHeartbeats 3200000 in
set_option maxRecDepth 100000 in
theorem sums_walk (a b : Int) (w : World) (ht : Tabs w) (h1 : -9223372036854775808 ≤ a) (h2 : a ≤ 9223372036854775807) (h3 : -9223372036854775808 ≤ b) (h4 : b ≤ 9223372036854775807) :
    Calls Tryd.prog 3 #[.int .i64 a, .int .i64 b] w fun e w' => e = .returned (.bool true) ∧ Below w.heap.size w w' := by
  obtain ⟨x, HX⟩ : ∃ x, Hid (decide (a < 0) = x) := ⟨_, rfl⟩
  obtain ⟨y, HY⟩ : ∃ y, Hid (decide (b < 0) = y) := ⟨_, rfl⟩
  go_enter Tryd.func3, Tryd.ntmps3
  go_wp2_with fail
  refine (of_val a x _ h1 h2 HX).mono ?_
  rintro e w1 ⟨⟨A, ca, da, rfl, ha, hca, hva, hla⟩, hb1⟩
  have HVA := Lib.hid hva
  clear hva
  go_wp2_with fail
  refine (of_val b y _ h3 h4 HY).mono ?_
  rintro e w2 ⟨⟨B, cb, db, rfl, hb, hcb, hvb, hlb⟩, hb2⟩
  have HVB := Lib.hid hvb
  clear hvb
  have ha2 := ha.below hb2
  have HB2 := Lib.hid (hb1.trans (hb2.mono hb1.size))
  clear hb1 hb2 ha
  go_wp2_with fail
  refine (add_any a b _ h1 h2 h3 h4).mono ?_
  rintro e w3 ⟨rfl, rfl⟩
  go_wp2_with fail
  refine (sub_any a b _ h1 h2 h3 h4).mono ?_
  rintro e w3 ⟨rfl, rfl⟩
  go_wp2_with fail
  refine (neg_any a _ h1 h2).mono ?_
  rintro e w3 ⟨rfl, rfl⟩
  go_wp2_with fail
  refine (abs_any a _ h1 h2).mono ?_
  rintro e w3 ⟨rfl, rfl⟩
  go_wp2_with fail
  have HW := Lib.hid (HB2.out.trans ((below2 w2 (.cells #[.bool x, .slice A da.length ca] 24) (.cells #[.bool y, .slice B db.length cb] 24)).mono HB2.out.size))
  have haW := Lib.hid (ha2.below (below2 w2 (.cells #[.bool x, .slice A da.length ca] 24) (.cells #[.bool y, .slice B db.length cb] 24)))
  have hbW := Lib.hid (hb.below (below2 w2 (.cells #[.bool x, .slice A da.length ca] 24) (.cells #[.bool y, .slice B db.length cb] 24)))
  have E5 : Hid (NumBlk _ _ _ _ _ _) := Lib.hid (blk_alloc (heap_alloc_new w2 (.cells #[.bool x, .slice A da.length ca] 24)) (.cells #[.bool y, .slice B db.length cb] 24))
  have E6 : Hid (NumBlk ((w2.alloc (.cells #[.bool x, .slice A da.length ca] 24)).alloc (.cells #[.bool y, .slice B db.length cb] 24)) (w2.heap.size + 1) y B db.length cb) := by
    have h := heap_alloc_new (w2.alloc (.cells #[.bool x, .slice A da.length ca] 24)) (.cells #[.bool y, .slice B db.length cb] 24)
    unfold Hid NumBlk
    simpa using h
  clear ha2 hb
  generalize ((w2.alloc (.cells #[.bool x, .slice A da.length ca] 24)).alloc (.cells #[.bool y, .slice B db.length cb] 24)) = W at *
  generalize w2.heap.size = p at *
  have HXA : Hid (sgn x (val da) = a) := by unfold Hid; rw [HVA.out]; exact sgn_of HX.out
  have HYB : Hid (sgn y (val db) = b) := by unfold Hid; rw [HVB.out]; exact sgn_of HY.out
  have m0 := E5.out.c0
  have m1 := E5.out.c1
  have m2 := E6.out.c0
  have m3 := E6.out.c1
  have HB := Lib.hid (Below.refl W.heap.size W)
  go_region_held3 (fun w' => w'.cell? ⟨p, 0, none⟩ = some (.bool x) ∧ w'.cell? ⟨p, 1, none⟩ = some (.slice A da.length ca) ∧ w'.cell? ⟨p + 1, 0, none⟩ = some (.bool y) ∧ w'.cell? ⟨p + 1, 1, none⟩ = some (.slice B db.length cb))
    (go_keep)
    (first
      | (go_at_call 16; refine (sum_any A B ca cb da db _ _ _ (by first | exact haW.out.below HB.out | exact haW.out.below HB.out.drew | exact haW.out.below (below_drewN HB.out _)) (by first | exact hbW.out.below HB.out | exact hbW.out.below HB.out.drew | exact hbW.out.below (below_drewN HB.out _)) (by omega) (by omega) hca hcb).mono ?_; rintro e w3 ⟨⟨C, c, ds, rfl, hrow, hcan, hs, hlv⟩, hbl⟩; have HB := Lib.hid (by first | exact HB.out.trans (hbl.mono HB.out.size) | exact HB.out.drew.trans (hbl.mono HB.out.size) | exact (below_drewN HB.out _).trans (hbl.mono HB.out.size)); have m0 := (E5.out.below HB.out).c0; have m1 := (E5.out.below HB.out).c1; have m2 := (E6.out.below HB.out).c0; have m3 := (E6.out.below HB.out).c1; clear hbl; have HS := Lib.hid hs; have HC := Lib.hid hcan; have hlc := sum_len hcan hlv HVA.out HVB.out (by omega) (by omega); clear hs hlv hcan)
      | (go_at_call 17; refine (turned_any _ _ _ _ _).mono ?_; rintro e w3 ⟨rfl, hbl⟩; have HB := Lib.hid (by first | exact HB.out.trans (hbl.mono HB.out.size) | exact HB.out.drew.trans (hbl.mono HB.out.size) | exact (below_drewN HB.out _).trans (hbl.mono HB.out.size)); have m0 := (E5.out.below HB.out).c0; have m1 := (E5.out.below HB.out).c1; have m2 := (E6.out.below HB.out).c0; have m3 := (E6.out.below HB.out).c1; clear hbl)
      | (go_at_call 15; refine (is_any _ _ _ _ _ _ (by first | exact hrow | exact haW.out.below HB.out | exact haW.out.below HB.out.drew | exact haW.out.below (below_drewN HB.out _)) (by omega) (by first | exact HC.out | exact hca) (by first | (rw [HS.out, HXA.out, HYB.out]; done) | (rw [HS.out, sgn_not, HXA.out, HYB.out]; omega) | (rw [sgn_not, HXA.out]; done) | (rw [sgn_f, HVA.out]; done))).mono ?_; rintro e w3 ⟨rfl, hbl⟩; have HB := Lib.hid (by first | exact HB.out.trans (hbl.mono HB.out.size) | exact HB.out.drew.trans (hbl.mono HB.out.size) | exact (below_drewN HB.out _).trans (hbl.mono HB.out.size)); have m0 := (E5.out.below HB.out).c0; have m1 := (E5.out.below HB.out).c1; have m2 := (E6.out.below HB.out).c0; have m3 := (E6.out.below HB.out).c1; clear hbl)
      | (go_at_call 18; refine (lives_any _ (ht.below (by first | exact HW.out.trans (HB.out.mono HW.out.size) | exact (HW.out.trans (HB.out.mono HW.out.size)).drew))).mono ?_; rintro e w3 ⟨rfl, hbl⟩; have HB := Lib.hid (by first | exact HB.out.trans (hbl.mono HB.out.size) | exact HB.out.drew.trans (hbl.mono HB.out.size) | exact (below_drewN HB.out _).trans (hbl.mono HB.out.size)); have m0 := (E5.out.below HB.out).c0; have m1 := (E5.out.below HB.out).c1; have m2 := (E6.out.below HB.out).c0; have m3 := (E6.out.below HB.out).c1; clear hbl))
  go_wp2_with fail
  go_ret
  exact ⟨rfl, by first | exact HW.out.trans (HB.out.mono HW.out.size) | exact (HW.out.trans (HB.out.mono HW.out.size)).drew⟩

set_option maxRecDepth 100000 in
theorem sums_lifted (os : Os) (started : os.Started) (H : Type) (enc : TypeId × Value → H) :
    ReturnsInHanded {} Tryd.checked os 3 .any (fun w args => (Rows.fixSumsSpec.pre enc Tryd.prog Tryd.f3 [] false w args ∧ laidMetH Tryd.prog laid3 w) ∧ sizedMet enc Tryd.prog Tryd.f3 (OpenSpec.ofChange Rows.fixSumsSpec) false w args)
      (Rows.fixSumsSpec.post enc Tryd.prog Tryd.f3 false true false false) := by
  refine returnsInHanded_of_change_and (C := Tryd.checked) (X := fun w _ => laidMetH Tryd.prog laid3 w) (fun _ _ _ hh h => h.of_heap hh) own started (by kernel_rfl) Tryd.func3
    (ChangeSpec.witness_shaped (enc := enc) (C := Tryd.checked) (os := os) (X := fun w _ => laidMetH Tryd.prog laid3 w) false (World.doorLaid Tryd.prog 400 os) #[.int .i64 0, .int .i64 0] 8 rfl (World.shaped_of_RefB (by kernel_rfl) (by kernel_rfl)) (by kernel_rfl) (by kernel_rfl) (by kernel_rfl) (door_met os _)) ?_
  intro W base args ds gs before hval0 hW _ _ hL _
  have hval : ∀ (j : Nat) t v, Tryd.f3.params[j]? = some t → args[j]? = some v → Value.okWide Tryd.prog W .any base t v := hval0
  have hW' := hW
  obtain ⟨p, q, hA0, hV, rfl, hfz, hnd⟩ := hW
  have hA : DataW.TrodAll enc Tryd.prog W 0 (fun _ => true) true Tryd.f3.params.toList args.toList ds p := hA0
  rw [Tryd.params3] at hA hval
  obtain ⟨v0, vs0, d0, ds0, p0, q0, hargs, rfl, rfl, h0, r0⟩ := trodAll_cons hA
  obtain ⟨v1, vs1, d1, ds1, p1, q1, rfl, rfl, rfl, h1, r1⟩ := trodAll_cons r0
  obtain ⟨rfl, rfl, rfl⟩ := trodAll_nil r1
  obtain rfl : args = #[v0, v1] := by cases args; simp_all
  obtain ⟨rfl, rfl⟩ := trodVars_none hV
  obtain ⟨a0, rfl, rfl, rfl, w0⟩ := open_int Tryd.underlying3 (hval 0 3 v0 rfl rfl) h0
  obtain ⟨a1, rfl, rfl, rfl, w1⟩ := open_int Tryd.underlying3 (hval 1 3 v1 rfl rfl) h1
  clear hA0 hval0
  simp only [List.append_nil] at hW'
  refine (sums_walk a0 a1 W (of_laid hL) (i64_of w0).1 (i64_of w0).2 (i64_of w1).1 (i64_of w1).2).mono fun e W' ⟨he, hg⟩ => ?_
  subst he
  exact ⟨_, rfl, law_post (pa := []) (pv := []) hW' (fun _ _ _ => (trodAll_cons_mk (shut_bool Tryd.underlying4 _) trodAll_mk0)) (fun sp => (trodAll_cons_mk (shut_int Tryd.underlying3 w0) (trodAll_cons_mk (shut_int Tryd.underlying3 w1) trodAll_mk0))) (fun _ => rfl) rfl hg⟩

theorem sums_holds : Rows.FixSumsSaid :=
  OpenClaim.holds_of_wide 3 Tryd.f3 rfl rfl rfl rfl rfl rfl rfl ⟨rfl, rfl, rfl, rfl, rfl⟩ rfl rfl rfl rfl rfl (by kernel_rfl) Tryd.func3 (by kernel_rfl)
    (of_decide_eq_true (by kernel_rfl)) (by unfold Func.isWrapper; first | (rw [if_pos (by decide +kernel)]; kernel_rfl) | (rw [if_neg (by decide +kernel)]; exact ⟨rfl, rfl⟩))
    (fun os started H enc _ => sums_lifted os started H enc)

end Go.Proofs.YtfjoahbboglgfaaDoor
