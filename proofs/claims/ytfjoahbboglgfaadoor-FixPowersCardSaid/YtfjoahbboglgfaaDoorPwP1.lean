/- The law FixPowers, for numbers above 1. -/
import Derived.Test.YtfjoahbboglgfaaDoorPws
import Derived.Deep.CutBlock
namespace Go.Proofs.YtfjoahbboglgfaaDoor
open Go.ChangeShapes Go.WideShapes Go.ChangeAt Go.RowKit

set_option maxHeartbeats 25600000 in
set_option maxRecDepth 100000 in
theorem powers_c1 (k m : Nat) (w : World) (ht : Tabs w) (h4 : (m : Int) ≤ 9223372036854775807) (hk : 2 ≤ k) (hk2 : k ≤ 9223372036854775807) :
    Calls Tryd.prog 7 #[.int .i64 (k : Int), .int .i64 (m : Int)] w fun e w' => e = .returned (.bool true) ∧ Below w.heap.size w w' := by
  have h1 : -9223372036854775808 ≤ (k : Int) := by omega
  have h2 : (k : Int) ≤ 9223372036854775807 := by omega
  have hnB : decide ((m : Int) < 0) = false := decide_eq_false (by omega)
  have hc1 : decide (1 < (k : Int)) = true := decide_eq_true (by omega)
  have hc3 : decide ((k : Int) < 0) = false := decide_eq_false (by omega)
  obtain ⟨V, HV⟩ : ∃ V, Hid (fitV ((k : Int) ^ ((m : Int)).toNat) = V) := ⟨_, rfl⟩
  obtain ⟨B, HB0⟩ : ∃ B, Hid (fitB ((k : Int) ^ ((m : Int)).toNat) = B) := ⟨_, rfl⟩
  obtain ⟨y, HY⟩ : ∃ y, Hid (decide ((k : Int) < 0) = y) := ⟨_, rfl⟩
  have hfl := field_1
  go_enter Tryd.func7, Tryd.ntmps7
  go_wp2_with fail
  refine (pow_val (k : Int) (m : Int) V B _ h1 h2 (by omega) h4 HV HB0).mono ?_
  rintro e w0 ⟨rfl, rfl⟩
  rw [Int.toNat_natCast] at HV HB0
  go_wp2_with fail
  refine (of_val 1 false _ (by omega) (by omega) (by unfold Hid; decide)).mono ?_
  rintro e w1 ⟨⟨O, co, dso, rfl, hro, hco, hvo, hlo⟩, hbl⟩
  have H0 : Hid (PwRel w (w1.alloc (.cells #[.bool false, .slice O dso.length co] 24)) w1.heap.size (k : Int) 0 false O co dso) := Lib.hid ⟨hbl.size, heap_alloc_new w1 _, hro.below ((Below.refl _ _).alloc (Nat.le_refl _) _), hco, by rw [hvo, Int.pow_zero]; rfl, hbl.trans (((Below.refl _ _).alloc (Nat.le_refl _) _).mono hbl.size)⟩
  clear hro hco hvo hbl
  go_upto_block 0 with fail
  generalize w1.alloc (.cells #[.bool false, .slice O dso.length co] 24) = W at *
  generalize w1.heap.size = p at *
  go_cut [] (fun wx => ∃ (i : Nat) (x : Bool) (A : Option Addr) (c : Nat) (ds : List Nat), ds.length ≤ 80 ∧ PwRel w wx p (k : Int) i x A c ds ∧ Hid (fitV (sgn x (val ds)) = V ∧ fitB (sgn x (val ds)) = B))
  case first =>
    go_wp2_with fail
    go_loopw [8] (fun iv wr => ∃ (i : Nat) (x : Bool) (A : Option Addr) (c : Nat) (ds : List Nat), iv = .int .i64 (i : Int) ∧ i ≤ m ∧ i ≤ 70 ∧ ds.length ≤ 80 ∧ PwRel w wr p (k : Int) i x A c ds) (fun iv _ => 70 - (intOf iv).toNat)
    case atStart => exact ⟨0, false, O, co, dso, rfl, by omega, by omega, by omega, H0.out⟩
    case round =>
      obtain ⟨i, x, A, c, ds, rfl, him, hi70, hdl, hr⟩ := hrel
      have m0 := hr.blk.c0
      have m1 := hr.blk.c1
      have HRP := Lib.hid hr
      clear hr H0
      by_cases hm : i < m
      · by_cases h70 : i < 70
        · have hb1 : decide ((i : Int) < (m : Int)) = true := decide_eq_true (by omega)
          have hb2 : decide ((i : Int) < 70) = true := decide_eq_true (by omega)
          by_cases h60 : ds.length < 60
          · have hb3 : decide ((ds.length : Int) < 60) = true := decide_eq_true (by omega)
            obtain ⟨z, HZ⟩ : ∃ z, Hid ((!(x == y)) = z) := ⟨_, rfl⟩
            have HB := Lib.hid (Below.refl wr.heap.size wr)
            have mf0 := blk_frozen HRP.out.blk 0
            have mf := blk_frozen HRP.out.blk 1
            go_wp2_with fail
            go_region_with (first
              | (go_at_call 10; refine (of_val _ y _ h1 h2 HY).mono ?_; rintro e wv ⟨⟨R, cr, od, rfl, hro, hco, hvo, hlo⟩, hbl⟩; have HB := Lib.hid (by first | exact HB.out.trans (hbl.mono HB.out.size) | exact HB.out.drew.trans (hbl.mono HB.out.size) | exact (below_drewN HB.out _).trans (hbl.mono HB.out.size)); have m0 := (HRP.out.blk.below HB.out).c0; have m1 := (HRP.out.blk.below HB.out).c1; have mf0 := blk_frozen (HRP.out.blk.below HB.out) 0; have mf := blk_frozen (HRP.out.blk.below HB.out) 1; have HVO := Lib.hid hvo; clear hvo hbl)
              | (go_at_call 20; refine (prod_val A R c cr ds od x y z _ (by first | exact HRP.out.row.below HB.out | exact HRP.out.row.below HB.out.drew | exact HRP.out.row.below (below_drewN HB.out _)) (by exact hro) (by omega) (by omega) HRP.out.canon hco HZ).mono ?_; rintro e wv ⟨⟨Q, cq, qd, rfl, hrq, hcq, hvq, hlq⟩, hbl⟩; have HB := Lib.hid (by first | exact HB.out.trans (hbl.mono HB.out.size) | exact HB.out.drew.trans (hbl.mono HB.out.size) | exact (below_drewN HB.out _).trans (hbl.mono HB.out.size)); have m0 := (HRP.out.blk.below HB.out).c0; have m1 := (HRP.out.blk.below HB.out).c1; have mf0 := blk_frozen (HRP.out.blk.below HB.out) 0; have mf := blk_frozen (HRP.out.blk.below HB.out) 1; have HVQ := Lib.hid hvq; clear hvq hbl))
            all_goals
              go_wp2_with fail
              go_roundw
            all_goals first
              | (case rel => exact ⟨i + 1, z, Q, cq, qd, by go_num, by omega, by omega, pw_len hcq HRP.out.canon.1 HVQ.out HVO.out (by omega) h60, HRP.out.put HB.out hrq hcq (pw_sum HZ.out HVQ.out HRP.out.sum HVO.out HY.out)⟩)
              | (case measure => simp [intOf]; omega)
          · have hb3 : decide ((ds.length : Int) < 60) = false := decide_eq_false (by omega)
            have HX := Lib.hid (pw_none HV.out HB0.out (pw_big HRP.out.canon (by omega) HRP.out.sum him) (pw_big HRP.out.canon (by omega) HRP.out.sum (Nat.le_refl i)) HRP.out.sum)
            go_wp2_with fail
            go_meet
            exact ⟨i, x, A, c, ds, by omega, HRP.out, HX⟩

        · have hb1 : decide ((i : Int) < (m : Int)) = true := decide_eq_true (by omega)
          have hb2 : decide ((i : Int) < 70) = false := decide_eq_false (by omega)
          have HX := Lib.hid (pw_none HV.out HB0.out (pw_70 (a := (k : Int)) (by omega) (m := m) (by omega)) (pw_70 (a := (k : Int)) (by omega) (m := i) (by omega)) HRP.out.sum)
          go_wp2_with fail
          go_meet
          exact ⟨i, x, A, c, ds, by omega, HRP.out, HX⟩

      · have hb1 : decide ((i : Int) < (m : Int)) = false := decide_eq_false (by omega)
        have HX : Hid (fitV (sgn x (val ds)) = V ∧ fitB (sgn x (val ds)) = B) := by
          unfold Hid
          rw [HRP.out.sum, show i = m by omega]
          exact ⟨HV.out, HB0.out⟩
        go_wp2_with fail
        go_meet
        exact ⟨i, x, A, c, ds, by omega, HRP.out, HX⟩

  case rest =>
    obtain ⟨i, x, A, c, ds, hdl, hr, HX⟩ := hcut
    have m0 := hr.blk.c0
    have m1 := hr.blk.c1
    have HRP := Lib.hid hr
    clear hr
    go_wp2_with fail
    refine (is_fit A c ds x V B _ HRP.out.row (by omega) HRP.out.canon HX.out).mono ?_
    rintro e w2 ⟨rfl, hbl⟩
    have HW := Lib.hid (HRP.out.below.trans (hbl.mono HRP.out.below.size))
    clear hbl m0 m1
    go_wp2_with fail
    refine (root_any k _ (by omega)).mono ?_
    rintro e w3 ⟨⟨s, rfl, hlo, hhi⟩, rfl⟩
    have hs9 := root_len hlo (by omega)
    obtain ⟨l, HL⟩ : ∃ l, Hid (k - s * s = l) := ⟨_, rfl⟩
    rw [HL.out]
    have hl9 : l ≤ k := by rw [← HL.out]; exact Nat.sub_le _ _
    have HLO := Lib.hid hlo
    have HHI := Lib.hid hhi
    clear hlo hhi
    have hs0 : decide ((0 : Int) ≤ (s : Int)) = true := decide_eq_true (by omega)
    have hl0 : decide ((0 : Int) ≤ (l : Int)) = true := decide_eq_true (by omega)
    have HS0 : Hid (decide ((s : Int) < 0) = false) := Lib.hid (decide_eq_false (by omega))
    have HS1 : Hid (decide ((s : Int) + 1 < 0) = false) := Lib.hid (decide_eq_false (by omega))
    have HL0 : Hid (decide ((l : Int) < 0) = false) := Lib.hid (decide_eq_false (by omega))
    have HK0 : Hid (decide ((k : Int) < 0) = false) := Lib.hid (decide_eq_false (by omega))
    go_wp2_with fail
    refine (of_val (s : Int) false _ (by omega) (by omega) HS0).mono ?_
    rintro e w4 ⟨⟨S1, c1, d1, rfl, hr1, hn1, hv1, hl1⟩, hbl⟩
    have HW := Lib.hid (HW.out.trans (hbl.mono HW.out.size))
    have HV1 := Lib.hid hv1
    clear hbl hv1
    go_wp2_with fail
    refine (of_val (s : Int) false _ (by omega) (by omega) HS0).mono ?_
    rintro e w5 ⟨⟨S2, c2, d2, rfl, hr2, hn2, hv2, hl2⟩, hbl⟩
    have hr1 := hr1.below hbl
    have HW := Lib.hid (HW.out.trans (hbl.mono HW.out.size))
    have HV2 := Lib.hid hv2
    clear hbl hv2
    go_wp2_with fail
    refine (prod_val S1 S2 c1 c2 d1 d2 false false false _ hr1 hr2 (by omega) (by omega) hn1 hn2 rfl).mono ?_
    rintro e w6 ⟨⟨P, cp, dp, rfl, hrp, hcp, hvp, hlp⟩, hbl⟩
    have HW := Lib.hid (HW.out.trans (hbl.mono HW.out.size))
    have HVP : Hid (val dp = s * s) := by unfold Hid; rw [hvp, HV1.out, HV2.out, Int.natAbs_natCast]
    clear hbl hvp hr1 hr2 hn1 hn2 hl1 hl2 HV1 HV2
    go_wp2_with fail
    have hbl := (Below.refl w6.heap.size w6).alloc (Nat.le_refl _) (.cells #[.bool false, .slice P dp.length cp] 24)
    have hrp := hrp.below hbl
    have HW := Lib.hid (HW.out.trans (hbl.mono HW.out.size))
    have E1 : Hid (NumBlk (w6.alloc (.cells #[.bool false, .slice P dp.length cp] 24)) w6.heap.size false P dp.length cp) := Lib.hid (heap_alloc_new w6 (.cells #[.bool false, .slice P dp.length cp] 24))
    clear hbl
    generalize (w6.alloc (.cells #[.bool false, .slice P dp.length cp] 24)) = W1 at *
    generalize w6.heap.size = p1 at *
    refine (of_val ((s : Int) + 1) false _ (by omega) (by omega) HS1).mono ?_
    rintro e w7 ⟨⟨S1, c1, d1, rfl, hr1, hn1, hv1, hl1⟩, hbl⟩
    have hrp := hrp.below hbl
    have E1 := Lib.hid (E1.out.below hbl)
    have HW := Lib.hid (HW.out.trans (hbl.mono HW.out.size))
    have HV1 := Lib.hid hv1
    clear hbl hv1
    go_wp2_with fail
    refine (of_val ((s : Int) + 1) false _ (by omega) (by omega) HS1).mono ?_
    rintro e w8 ⟨⟨S2, c2, d2, rfl, hr2, hn2, hv2, hl2⟩, hbl⟩
    have hrp := hrp.below hbl
    have hr1 := hr1.below hbl
    have E1 := Lib.hid (E1.out.below hbl)
    have HW := Lib.hid (HW.out.trans (hbl.mono HW.out.size))
    have HV2 := Lib.hid hv2
    clear hbl hv2
    go_wp2_with fail
    refine (prod_val S1 S2 c1 c2 d1 d2 false false false _ hr1 hr2 (by omega) (by omega) hn1 hn2 rfl).mono ?_
    rintro e w9 ⟨⟨N, cn, dn, rfl, hrn, hcn, hvn, hln⟩, hbl⟩
    have hrp := hrp.below hbl
    have E1 := Lib.hid (E1.out.below hbl)
    have HW := Lib.hid (HW.out.trans (hbl.mono HW.out.size))
    have HVN : Hid (val dn = ((s : Int) + 1).natAbs * ((s : Int) + 1).natAbs) := by unfold Hid; rw [hvn, HV1.out, HV2.out]
    clear hbl hvn hr1 hr2 hn1 hn2 hl1 hl2 HV1 HV2
    go_wp2_with fail
    have hbl := (Below.refl w9.heap.size w9).alloc (Nat.le_refl _) (.cells #[.bool false, .slice N dn.length cn] 24)
    have hrp := hrp.below hbl
    have hrn := hrn.below hbl
    have E1 := Lib.hid (E1.out.below hbl)
    have HW := Lib.hid (HW.out.trans (hbl.mono HW.out.size))
    have E2 : Hid (NumBlk (w9.alloc (.cells #[.bool false, .slice N dn.length cn] 24)) w9.heap.size false N dn.length cn) := Lib.hid (heap_alloc_new w9 (.cells #[.bool false, .slice N dn.length cn] 24))
    clear hbl
    generalize (w9.alloc (.cells #[.bool false, .slice N dn.length cn] 24)) = W2 at *
    generalize w9.heap.size = p2 at *
    have m0 := E2.out.c0
    have m1 := E2.out.c1
    have HB := Lib.hid (Below.refl W2.heap.size W2)
    have hp2 := blk_lt E2.out
    have HRN := Lib.hid hrn
    clear hrn
    go_upto_region 19 with fail
    go_cut [14] (fun v wx => ∃ (g : Nat) (M : Option Addr) (cm : Nat) (dm : List Nat), v = .pointer (some ⟨g, 0, none⟩) ∧ Got3 W2 wx g M dm.length cm ∧ 0 < dm.length)
    case first =>
      go_region_with (first
          | (go_at_call 10; refine (of_val (k : Int) false _ (by omega) (by omega) HK0).mono ?_; rintro e wa ⟨⟨A, ca, da, rfl, hra, hca, hva, hla⟩, hbl⟩; have HB0 := HB; have HB := Lib.hid (by first | exact HB.out.trans (hbl.mono HB.out.size) | exact HB.out.drew.trans (hbl.mono HB.out.drew.size) | exact (below_drewN HB.out _).trans (hbl.mono (below_drewN HB.out _).size) | exact (HB.out.alloc HB.out.size _).trans (hbl.mono (HB.out.alloc HB.out.size _).size) | exact (HB.out.alloc HB.out.size _).drew.trans (hbl.mono (HB.out.alloc HB.out.size _).drew.size)); (first | (have E3 := Lib.hid (E3.out.below hbl)) | (have E3 : Hid (New3 W2 wa W2.heap.size) := Lib.hid (New3.made (X := W2) (Below.refl _ _) ((Below.refl _ _).drew.trans hbl))) | (have E3 := Lib.hid (New3.made HB0.out hbl)) | skip); (try have m2 := E3.out.blk.c0); (try have m3 := E3.out.blk.c1); (try have mf2 := blk_frozen E3.out.blk 0); (try have mf3 := blk_frozen E3.out.blk 1); have m0 := (E2.out.below HB.out).c0; have m1 := (E2.out.below HB.out).c1; have hp2 := blk_lt (E2.out.below HB.out); clear HB0; clear hbl; have HVA := Lib.hid (hva.trans (Int.natAbs_natCast k)); clear hva)
          | (go_at_call 17; refine (turned_any _ _ _ _ _).mono ?_; rintro e wa ⟨rfl, hbl⟩; have hra := Row.below (by first | exact hra | exact hra.below ((Below.refl _ _).alloc (Nat.le_refl _) _) | exact hra.below (Below.refl _ _).drew) hbl; have HB0 := HB; have HB := Lib.hid (by first | exact HB.out.trans (hbl.mono HB.out.size) | exact HB.out.drew.trans (hbl.mono HB.out.drew.size) | exact (below_drewN HB.out _).trans (hbl.mono (below_drewN HB.out _).size) | exact (HB.out.alloc HB.out.size _).trans (hbl.mono (HB.out.alloc HB.out.size _).size) | exact (HB.out.alloc HB.out.size _).drew.trans (hbl.mono (HB.out.alloc HB.out.size _).drew.size)); (first | (have E3 := Lib.hid (E3.out.below hbl)) | (have E3 : Hid (New3 W2 wa W2.heap.size) := Lib.hid (New3.made (X := W2) (Below.refl _ _) ((Below.refl _ _).drew.trans hbl))) | (have E3 := Lib.hid (New3.made HB0.out hbl)) | skip); (try have m2 := E3.out.blk.c0); (try have m3 := E3.out.blk.c1); (try have mf2 := blk_frozen E3.out.blk 0); (try have mf3 := blk_frozen E3.out.blk 1); have m0 := (E2.out.below HB.out).c0; have m1 := (E2.out.below HB.out).c1; have hp2 := blk_lt (E2.out.below HB.out); clear HB0; clear hbl)
          | (go_at_call 16; refine (more_val N A cn ca dn da s k _ (by first | exact HRN.out.below HB.out | exact HRN.out.below HB.out.drew | exact HRN.out.below (below_drewN HB.out _) | exact HRN.out.below (HB.out.alloc HB.out.size _) | exact HRN.out.below (HB.out.alloc HB.out.size _).drew) (by first | exact hra | exact hra.below ((Below.refl _ _).alloc (Nat.le_refl _) _) | exact hra.below (Below.refl _ _).drew) (by omega) (by omega) hcn hca HVA.out HVN.out HHI.out).mono ?_; rintro e wa ⟨⟨M, cm, dm, rfl, HMP⟩, hbl⟩; have HB0 := HB; have HB := Lib.hid (by first | exact HB.out.trans (hbl.mono HB.out.size) | exact HB.out.drew.trans (hbl.mono HB.out.drew.size) | exact (below_drewN HB.out _).trans (hbl.mono (below_drewN HB.out _).size) | exact (HB.out.alloc HB.out.size _).trans (hbl.mono (HB.out.alloc HB.out.size _).size) | exact (HB.out.alloc HB.out.size _).drew.trans (hbl.mono (HB.out.alloc HB.out.size _).drew.size)); (first | (have E3 := Lib.hid (E3.out.below hbl)) | (have E3 : Hid (New3 W2 wa W2.heap.size) := Lib.hid (New3.made (X := W2) (Below.refl _ _) ((Below.refl _ _).drew.trans hbl))) | (have E3 := Lib.hid (New3.made HB0.out hbl)) | skip); (try have m2 := E3.out.blk.c0); (try have m3 := E3.out.blk.c1); (try have mf2 := blk_frozen E3.out.blk 0); (try have mf3 := blk_frozen E3.out.blk 1); have m0 := (E2.out.below HB.out).c0; have m1 := (E2.out.below HB.out).c1; have hp2 := blk_lt (E2.out.below HB.out); clear HB0; clear hbl))
      all_goals
        go_wp2_with fail
        go_meet
        first
          | exact ⟨_, M, cm, dm, rfl, E3.out.got HB.out M dm.length cm, HMP⟩
          | exact ⟨_, M, cm, dm, rfl, got_new HB.out M dm.length cm, HMP⟩
    case rest =>
      obtain ⟨g, M, cm, dm, rfl, hG, hMP⟩ := hcut
      have E3 := Lib.hid hG.blk
      have E1 := Lib.hid (E1.out.below hG.below)
      have HRQ := Lib.hid (hrp.below hG.below)
      have HW := Lib.hid (HW.out.trans (hG.below.mono HW.out.size))
      have hd0 : decide ((0 : Int) < (dm.length : Int)) = true := decide_eq_true (by omega)
      have hd1 : 0 < dm.length := hMP
      have hd2 : dm ≠ [] := by intro h; rw [h] at hMP; simp at hMP
      have hd3 : decide (dm = []) = false := decide_eq_false hd2
      have hd4 : decide (0 < dm.length) = true := decide_eq_true hMP
      clear hG hrp hMP
      have m0 := E1.out.c0
      have m1 := E1.out.c1
      have m2 := E3.out.c0
      have m3 := E3.out.c1
      have HB := Lib.hid (Below.refl wc.heap.size wc)
      go_wp2_with fail
      go_region_held3 (fun w' => w'.cell? ⟨p1, 0, none⟩ = some (.bool false) ∧ w'.cell? ⟨p1, 1, none⟩ = some (.slice P dp.length cp) ∧ w'.cell? ⟨g, 0, none⟩ = some (.bool false) ∧ w'.cell? ⟨g, 1, none⟩ = some (.slice M dm.length cm))
        (go_keep)
        (first
          | (go_at_call 10; go_fit (of_val (l : Int) false _ (by omega) (by omega) HL0); rintro e wa ⟨⟨L, cl, dl, rfl, hrl, hcl, hvl, hll⟩, hbl⟩; (try have hra := Row.below (by exact hra) hbl); have HB := Lib.hid (by first | exact HB.out.trans (hbl.mono HB.out.size) | exact HB.out.drew.trans (hbl.mono HB.out.size) | exact (below_drewN HB.out _).trans (hbl.mono HB.out.size)); have m0 := (E1.out.below HB.out).c0; have m1 := (E1.out.below HB.out).c1; have m2 := (E3.out.below HB.out).c0; have m3 := (E3.out.below HB.out).c1; clear hbl; have HVL := Lib.hid (hvl.trans (Int.natAbs_natCast l)); clear hvl)
          | (go_at_call 10; go_fit (of_val (k : Int) false _ (by omega) (by omega) HK0); rintro e wa ⟨⟨A, ca, da, rfl, hra, hca, hva, hla⟩, hbl⟩; (try have hrl := Row.below (by exact hrl) hbl); (try have hrs := Row.below (by exact hrs) hbl); have HB := Lib.hid (by first | exact HB.out.trans (hbl.mono HB.out.size) | exact HB.out.drew.trans (hbl.mono HB.out.size) | exact (below_drewN HB.out _).trans (hbl.mono HB.out.size)); have m0 := (E1.out.below HB.out).c0; have m1 := (E1.out.below HB.out).c1; have m2 := (E3.out.below HB.out).c0; have m3 := (E3.out.below HB.out).c1; clear hbl; have HVA := Lib.hid (hva.trans (Int.natAbs_natCast k)); clear hva)
          | (go_at_call 16; refine (sq_val P L cp cl dp dl s k l _ (by first | exact HRQ.out.below HB.out | exact HRQ.out.below HB.out.drew | exact HRQ.out.below (below_drewN HB.out _)) (by exact hrl) (by omega) (by omega) hcp hcl HVP.out HVL.out HLO.out HL.out (by omega)).mono ?_; rintro e wa ⟨⟨Q, cq, dq, rfl, hrs, hcs, hls, hvs⟩, hbl⟩; (try have hra := Row.below (by exact hra) hbl); have HB := Lib.hid (by first | exact HB.out.trans (hbl.mono HB.out.size) | exact HB.out.drew.trans (hbl.mono HB.out.size) | exact (below_drewN HB.out _).trans (hbl.mono HB.out.size)); have m0 := (E1.out.below HB.out).c0; have m1 := (E1.out.below HB.out).c1; have m2 := (E3.out.below HB.out).c0; have m3 := (E3.out.below HB.out).c1; clear hbl; have HVS := Lib.hid hvs; clear hvs)
          | (go_at_call 24; refine (eq_val Q A cq ca dq da k _ (by exact hrs) (by exact hra) (by omega) (by omega) hcs hca HVS.out HVA.out).mono ?_; rintro e wa ⟨rfl, hbl⟩; have HB := Lib.hid (by first | exact HB.out.trans (hbl.mono HB.out.size) | exact HB.out.drew.trans (hbl.mono HB.out.size) | exact (below_drewN HB.out _).trans (hbl.mono HB.out.size)); have m0 := (E1.out.below HB.out).c0; have m1 := (E1.out.below HB.out).c1; have m2 := (E3.out.below HB.out).c0; have m3 := (E3.out.below HB.out).c1; clear hbl)
          | (go_at_call 18; refine (lives_any _ (ht.below (by first | exact HW.out.trans (HB.out.mono HW.out.size) | exact (HW.out.trans (HB.out.mono HW.out.size)).drew))).mono ?_; rintro e wa ⟨rfl, hbl⟩; have HB := Lib.hid (by first | exact HB.out.trans (hbl.mono HB.out.size) | exact HB.out.drew.trans (hbl.mono HB.out.size) | exact (below_drewN HB.out _).trans (hbl.mono HB.out.size)); have m0 := (E1.out.below HB.out).c0; have m1 := (E1.out.below HB.out).c1; have m2 := (E3.out.below HB.out).c0; have m3 := (E3.out.below HB.out).c1; clear hbl))
      go_wp2_with fail
      go_ret
      exact ⟨rfl, by first | exact HW.out.trans (HB.out.mono HW.out.size) | exact (HW.out.trans (HB.out.mono HW.out.size)).drew⟩

end Go.Proofs.YtfjoahbboglgfaaDoor
