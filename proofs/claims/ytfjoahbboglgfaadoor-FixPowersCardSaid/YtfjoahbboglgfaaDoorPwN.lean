/- The law FixPowers, for numbers below 0. -/
import Derived.Test.YtfjoahbboglgfaaDoorPws
namespace Go.Proofs.YtfjoahbboglgfaaDoor
open Go.ChangeShapes Go.WideShapes Go.ChangeAt Go.RowKit

set_option maxRecDepth 100000 in
theorem powers_c0 (a n : Int) (w : World) (ht : Tabs w) (hn : n < 0) :
    Calls Tryd.prog 7 #[.int .i64 a, .int .i64 n] w fun e w' => e = .returned (.bool true) ∧ Below w.heap.size w w' := by
  have hnB : decide (n < 0) = true := decide_eq_true hn
  go_enter Tryd.func7, Tryd.ntmps7
  go_wp2_with fail
  refine (pow_neg a n _ hn).mono ?_
  rintro e w0 ⟨rfl, rfl⟩
  go_wp2_with fail
  refine (lives_any _ ht).mono ?_
  rintro e w5 ⟨rfl, hb5⟩
  go_wp2_with fail
  go_ret
  exact ⟨rfl, hb5⟩

set_option maxHeartbeats 6400000 in
set_option maxRecDepth 100000 in
theorem powers_c2 (a : Int) (m : Nat) (w : World) (ht : Tabs w) (h1 : -9223372036854775808 ≤ a) (h2 : a ≤ 9223372036854775807) (h4 : (m : Int) ≤ 9223372036854775807) (ha : a < -1) :
    Calls Tryd.prog 7 #[.int .i64 a, .int .i64 (m : Int)] w fun e w' => e = .returned (.bool true) ∧ Below w.heap.size w w' := by
  have hnB : decide ((m : Int) < 0) = false := decide_eq_false (by omega)
  have hc1 : decide (1 < a) = false := decide_eq_false (by omega)
  have hc2 : decide (a < -1) = true := decide_eq_true (by omega)
  have hc3 : decide (a < 0) = true := decide_eq_true (by omega)
  obtain ⟨V, HV⟩ : ∃ V, Hid (fitV (a ^ ((m : Int)).toNat) = V) := ⟨_, rfl⟩
  obtain ⟨B, HB0⟩ : ∃ B, Hid (fitB (a ^ ((m : Int)).toNat) = B) := ⟨_, rfl⟩
  obtain ⟨y, HY⟩ : ∃ y, Hid (decide (a < 0) = y) := ⟨_, rfl⟩
  have hfl := field_1
  go_enter Tryd.func7, Tryd.ntmps7
  go_wp2_with fail
  refine (pow_val a (m : Int) V B _ h1 h2 (by omega) h4 HV HB0).mono ?_
  rintro e w0 ⟨rfl, rfl⟩
  rw [Int.toNat_natCast] at HV HB0
  go_wp2_with fail
  refine (of_val 1 false _ (by omega) (by omega) (by unfold Hid; decide)).mono ?_
  rintro e w1 ⟨⟨O, co, dso, rfl, hro, hco, hvo, hlo⟩, hbl⟩
  have H0 : Hid (PwRel w (w1.alloc (.cells #[.bool false, .slice O dso.length co] 24)) w1.heap.size a 0 false O co dso) := Lib.hid ⟨hbl.size, heap_alloc_new w1 _, hro.below ((Below.refl _ _).alloc (Nat.le_refl _) _), hco, by rw [hvo, Int.pow_zero]; rfl, hbl.trans (((Below.refl _ _).alloc (Nat.le_refl _) _).mono hbl.size)⟩
  clear hro hco hvo hbl
  go_wp2_with fail
  generalize w1.alloc (.cells #[.bool false, .slice O dso.length co] 24) = W at *
  generalize w1.heap.size = p at *
  go_loopw [8] (fun iv wr => ∃ (i : Nat) (x : Bool) (A : Option Addr) (c : Nat) (ds : List Nat), iv = .int .i64 (i : Int) ∧ i ≤ m ∧ i ≤ 70 ∧ ds.length ≤ 80 ∧ PwRel w wr p a i x A c ds) (fun iv _ => 70 - (intOf iv).toNat)
  case atStart => exact ⟨0, false, O, co, dso, rfl, by omega, by omega, by omega, H0.out⟩
  case round =>
    obtain ⟨i, x, A, c, ds, rfl, him, hi70, hdl, hr⟩ := hrel
    have m0 := hr.blk.c0
    have m1 := hr.blk.c1
    have HRP := Lib.hid hr
    clear hr H0
    by_cases hm : i < m
    · by_cases h70 : i < 70
      · have hb1 : decide ((i : Int) < (m : Int)) = true := decide_eq_true (by omega)
        have hb2 : decide ((i : Int) < 70) = true := decide_eq_true (by omega)
        by_cases h60 : ds.length < 60
        · have hb3 : decide ((ds.length : Int) < 60) = true := decide_eq_true (by omega)
          obtain ⟨z, HZ⟩ : ∃ z, Hid ((!(x == y)) = z) := ⟨_, rfl⟩
          have HB := Lib.hid (Below.refl wr.heap.size wr)
          have mf0 := blk_frozen HRP.out.blk 0
          have mf := blk_frozen HRP.out.blk 1
          go_wp2_with fail
          go_region_with (first
            | (go_at_call 10; refine (of_val _ y _ h1 h2 HY).mono ?_; rintro e wv ⟨⟨R, cr, od, rfl, hro, hco, hvo, hlo⟩, hbl⟩; have HB := Lib.hid (by first | exact HB.out.trans (hbl.mono HB.out.size) | exact HB.out.drew.trans (hbl.mono HB.out.size) | exact (below_drewN HB.out _).trans (hbl.mono HB.out.size)); have m0 := (HRP.out.blk.below HB.out).c0; have m1 := (HRP.out.blk.below HB.out).c1; have mf0 := blk_frozen (HRP.out.blk.below HB.out) 0; have mf := blk_frozen (HRP.out.blk.below HB.out) 1; have HVO := Lib.hid hvo; clear hvo hbl)
            | (go_at_call 20; refine (prod_val A R c cr ds od x y z _ (by first | exact HRP.out.row.below HB.out | exact HRP.out.row.below HB.out.drew | exact HRP.out.row.below (below_drewN HB.out _)) (by exact hro) (by omega) (by omega) HRP.out.canon hco HZ).mono ?_; rintro e wv ⟨⟨Q, cq, qd, rfl, hrq, hcq, hvq, hlq⟩, hbl⟩; have HB := Lib.hid (by first | exact HB.out.trans (hbl.mono HB.out.size) | exact HB.out.drew.trans (hbl.mono HB.out.size) | exact (below_drewN HB.out _).trans (hbl.mono HB.out.size)); have m0 := (HRP.out.blk.below HB.out).c0; have m1 := (HRP.out.blk.below HB.out).c1; have mf0 := blk_frozen (HRP.out.blk.below HB.out) 0; have mf := blk_frozen (HRP.out.blk.below HB.out) 1; have HVQ := Lib.hid hvq; clear hvq hbl))
          all_goals
            go_wp2_with fail
            go_roundw
          all_goals first
            | (case rel => exact ⟨i + 1, z, Q, cq, qd, by go_num, by omega, by omega, pw_len hcq HRP.out.canon.1 HVQ.out HVO.out (by omega) h60, HRP.out.put HB.out hrq hcq (pw_sum HZ.out HVQ.out HRP.out.sum HVO.out HY.out)⟩)
            | (case measure => simp [intOf]; omega)
        · have hb3 : decide ((ds.length : Int) < 60) = false := decide_eq_false (by omega)
          have HX := Lib.hid (pw_none HV.out HB0.out (pw_big HRP.out.canon (by omega) HRP.out.sum him) (pw_big HRP.out.canon (by omega) HRP.out.sum (Nat.le_refl i)) HRP.out.sum)
          go_wp2_with fail
          refine (is_fit A c ds x V B _ HRP.out.row (by omega) HRP.out.canon HX.out).mono ?_
          rintro e w2 ⟨rfl, hbl⟩
          have HW := Lib.hid (HRP.out.below.trans (hbl.mono HRP.out.below.size))
          clear hbl m0 m1
          go_wp2_with fail
          refine (root_neg a _ (by omega)).mono ?_
          rintro e w3 ⟨rfl, rfl⟩
          go_wp2_with fail
          refine (lives_any _ (ht.below HW.out)).mono ?_
          rintro e w5 ⟨rfl, hb5⟩
          have HB5 := Lib.hid (HW.out.trans (hb5.mono HW.out.size))
          clear hb5
          go_wp2_with fail
          go_ret
          exact ⟨rfl, HB5.out⟩

      · have hb1 : decide ((i : Int) < (m : Int)) = true := decide_eq_true (by omega)
        have hb2 : decide ((i : Int) < 70) = false := decide_eq_false (by omega)
        have HX := Lib.hid (pw_none HV.out HB0.out (pw_70 (a := a) (by omega) (m := m) (by omega)) (pw_70 (a := a) (by omega) (m := i) (by omega)) HRP.out.sum)
        go_wp2_with fail
        refine (is_fit A c ds x V B _ HRP.out.row (by omega) HRP.out.canon HX.out).mono ?_
        rintro e w2 ⟨rfl, hbl⟩
        have HW := Lib.hid (HRP.out.below.trans (hbl.mono HRP.out.below.size))
        clear hbl m0 m1
        go_wp2_with fail
        refine (root_neg a _ (by omega)).mono ?_
        rintro e w3 ⟨rfl, rfl⟩
        go_wp2_with fail
        refine (lives_any _ (ht.below HW.out)).mono ?_
        rintro e w5 ⟨rfl, hb5⟩
        have HB5 := Lib.hid (HW.out.trans (hb5.mono HW.out.size))
        clear hb5
        go_wp2_with fail
        go_ret
        exact ⟨rfl, HB5.out⟩

    · have hb1 : decide ((i : Int) < (m : Int)) = false := decide_eq_false (by omega)
      have HX : Hid (fitV (sgn x (val ds)) = V ∧ fitB (sgn x (val ds)) = B) := by
        unfold Hid
        rw [HRP.out.sum, show i = m by omega]
        exact ⟨HV.out, HB0.out⟩
      go_wp2_with fail
      refine (is_fit A c ds x V B _ HRP.out.row (by omega) HRP.out.canon HX.out).mono ?_
      rintro e w2 ⟨rfl, hbl⟩
      have HW := Lib.hid (HRP.out.below.trans (hbl.mono HRP.out.below.size))
      clear hbl m0 m1
      go_wp2_with fail
      refine (root_neg a _ (by omega)).mono ?_
      rintro e w3 ⟨rfl, rfl⟩
      go_wp2_with fail
      refine (lives_any _ (ht.below HW.out)).mono ?_
      rintro e w5 ⟨rfl, hb5⟩
      have HB5 := Lib.hid (HW.out.trans (hb5.mono HW.out.size))
      clear hb5
      go_wp2_with fail
      go_ret
      exact ⟨rfl, HB5.out⟩


end Go.Proofs.YtfjoahbboglgfaaDoor
