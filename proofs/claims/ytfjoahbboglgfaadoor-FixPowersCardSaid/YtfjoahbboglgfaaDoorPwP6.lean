/- The law FixPowers, for 0 and 1 to great powers. -/
import Derived.Test.YtfjoahbboglgfaaDoorPws
namespace Go.Proofs.YtfjoahbboglgfaaDoor
open Go.ChangeShapes Go.WideShapes Go.ChangeAt Go.RowKit

set_option maxHeartbeats 6400000 in
set_option maxRecDepth 100000 in
theorem powers_c6 (k m : Nat) (w : World) (ht : Tabs w) (h4 : (m : Int) ≤ 9223372036854775807) (hk : k ≤ 1) (hm : 70 ≤ m) :
    Calls Tryd.prog 7 #[.int .i64 (k : Int), .int .i64 (m : Int)] w fun e w' => e = .returned (.bool true) ∧ Below w.heap.size w w' := by
  have hnB : decide ((m : Int) < 0) = false := decide_eq_false (by omega)
  have hc1 : decide (1 < (k : Int)) = false := decide_eq_false (by omega)
  have hc2 : decide ((k : Int) < -1) = false := decide_eq_false (by omega)
  have hc3 : decide ((m : Int) < 70) = false := decide_eq_false (by omega)
  have hc4 : decide ((k : Int) < 0) = false := decide_eq_false (by omega)
  have hc5 : ((k : Int) == -1) = false := beq_eq_false_iff_ne.2 (by omega)
  have hc6 : ((k : Int) != (k : Int)) = false := by simp
  have hkm : (k : Int) ^ m = (k : Int) := by
    have h9 : k = 0 ∨ k = 1 := by omega
    rcases h9 with rfl | rfl
    · exact Int.zero_pow (by omega)
    · exact Int.one_pow
  have hfk : Is64 (k : Int) := ⟨by omega, by omega⟩
  have HV : Hid (fitV ((k : Int) ^ ((m : Int)).toNat) = (k : Int)) := by unfold Hid; rw [Int.toNat_natCast, hkm]; exact fitV_yes hfk
  have HB0 : Hid (fitB ((k : Int) ^ ((m : Int)).toNat) = true) := by unfold Hid; rw [Int.toNat_natCast, hkm]; exact fitB_yes hfk
  clear hkm hfk
  have hfl := field_1
  go_enter Tryd.func7, Tryd.ntmps7
  go_wp2_with fail
  refine (pow_val (k : Int) (m : Int) (k : Int) true _ (by omega) (by omega) (by omega) h4 HV HB0).mono ?_
  rintro e w0 ⟨rfl, rfl⟩
  go_wp2_with fail
  have HW := Lib.hid (Below.refl w.heap.size w)
  go_wp2_with fail
  refine (root_any k _ (by omega)).mono ?_
  rintro e w3 ⟨⟨s, rfl, hlo, hhi⟩, rfl⟩
  have hs9 := root_len hlo (by omega)
  obtain ⟨l, HL⟩ : ∃ l, Hid (k - s * s = l) := ⟨_, rfl⟩
  rw [HL.out]
  have hl9 : l ≤ k := by rw [← HL.out]; exact Nat.sub_le _ _
  have HLO := Lib.hid hlo
  have HHI := Lib.hid hhi
  clear hlo hhi
  have hs0 : decide ((0 : Int) ≤ (s : Int)) = true := decide_eq_true (by omega)
  have hl0 : decide ((0 : Int) ≤ (l : Int)) = true := decide_eq_true (by omega)
  have HS0 : Hid (decide ((s : Int) < 0) = false) := Lib.hid (decide_eq_false (by omega))
  have HS1 : Hid (decide ((s : Int) + 1 < 0) = false) := Lib.hid (decide_eq_false (by omega))
  have HL0 : Hid (decide ((l : Int) < 0) = false) := Lib.hid (decide_eq_false (by omega))
  have HK0 : Hid (decide ((k : Int) < 0) = false) := Lib.hid (decide_eq_false (by omega))
  go_wp2_with fail
  refine (of_val (s : Int) false _ (by omega) (by omega) HS0).mono ?_
  rintro e w4 ⟨⟨S1, c1, d1, rfl, hr1, hn1, hv1, hl1⟩, hbl⟩
  have HW := Lib.hid (HW.out.trans (hbl.mono HW.out.size))
  have HV1 := Lib.hid hv1
  clear hbl hv1
  go_wp2_with fail
  refine (of_val (s : Int) false _ (by omega) (by omega) HS0).mono ?_
  rintro e w5 ⟨⟨S2, c2, d2, rfl, hr2, hn2, hv2, hl2⟩, hbl⟩
  have hr1 := hr1.below hbl
  have HW := Lib.hid (HW.out.trans (hbl.mono HW.out.size))
  have HV2 := Lib.hid hv2
  clear hbl hv2
  go_wp2_with fail
  refine (prod_val S1 S2 c1 c2 d1 d2 false false false _ hr1 hr2 (by omega) (by omega) hn1 hn2 rfl).mono ?_
  rintro e w6 ⟨⟨P, cp, dp, rfl, hrp, hcp, hvp, hlp⟩, hbl⟩
  have HW := Lib.hid (HW.out.trans (hbl.mono HW.out.size))
  have HVP : Hid (val dp = s * s) := by unfold Hid; rw [hvp, HV1.out, HV2.out, Int.natAbs_natCast]
  clear hbl hvp hr1 hr2 hn1 hn2 hl1 hl2 HV1 HV2
  go_wp2_with fail
  have hbl := (Below.refl w6.heap.size w6).alloc (Nat.le_refl _) (.cells #[.bool false, .slice P dp.length cp] 24)
  have hrp := hrp.below hbl
  have HW := Lib.hid (HW.out.trans (hbl.mono HW.out.size))
  have E1 : Hid (NumBlk (w6.alloc (.cells #[.bool false, .slice P dp.length cp] 24)) w6.heap.size false P dp.length cp) := Lib.hid (heap_alloc_new w6 (.cells #[.bool false, .slice P dp.length cp] 24))
  clear hbl
  generalize (w6.alloc (.cells #[.bool false, .slice P dp.length cp] 24)) = W1 at *
  generalize w6.heap.size = p1 at *
  refine (of_val ((s : Int) + 1) false _ (by omega) (by omega) HS1).mono ?_
  rintro e w7 ⟨⟨S1, c1, d1, rfl, hr1, hn1, hv1, hl1⟩, hbl⟩
  have hrp := hrp.below hbl
  have E1 := Lib.hid (E1.out.below hbl)
  have HW := Lib.hid (HW.out.trans (hbl.mono HW.out.size))
  have HV1 := Lib.hid hv1
  clear hbl hv1
  go_wp2_with fail
  refine (of_val ((s : Int) + 1) false _ (by omega) (by omega) HS1).mono ?_
  rintro e w8 ⟨⟨S2, c2, d2, rfl, hr2, hn2, hv2, hl2⟩, hbl⟩
  have hrp := hrp.below hbl
  have hr1 := hr1.below hbl
  have E1 := Lib.hid (E1.out.below hbl)
  have HW := Lib.hid (HW.out.trans (hbl.mono HW.out.size))
  have HV2 := Lib.hid hv2
  clear hbl hv2
  go_wp2_with fail
  refine (prod_val S1 S2 c1 c2 d1 d2 false false false _ hr1 hr2 (by omega) (by omega) hn1 hn2 rfl).mono ?_
  rintro e w9 ⟨⟨N, cn, dn, rfl, hrn, hcn, hvn, hln⟩, hbl⟩
  have hrp := hrp.below hbl
  have E1 := Lib.hid (E1.out.below hbl)
  have HW := Lib.hid (HW.out.trans (hbl.mono HW.out.size))
  have HVN : Hid (val dn = ((s : Int) + 1).natAbs * ((s : Int) + 1).natAbs) := by unfold Hid; rw [hvn, HV1.out, HV2.out]
  clear hbl hvn hr1 hr2 hn1 hn2 hl1 hl2 HV1 HV2
  go_wp2_with fail
  have hbl := (Below.refl w9.heap.size w9).alloc (Nat.le_refl _) (.cells #[.bool false, .slice N dn.length cn] 24)
  have hrp := hrp.below hbl
  have hrn := hrn.below hbl
  have E1 := Lib.hid (E1.out.below hbl)
  have HW := Lib.hid (HW.out.trans (hbl.mono HW.out.size))
  have E2 : Hid (NumBlk (w9.alloc (.cells #[.bool false, .slice N dn.length cn] 24)) w9.heap.size false N dn.length cn) := Lib.hid (heap_alloc_new w9 (.cells #[.bool false, .slice N dn.length cn] 24))
  clear hbl
  generalize (w9.alloc (.cells #[.bool false, .slice N dn.length cn] 24)) = W2 at *
  generalize w9.heap.size = p2 at *
  have m0 := E2.out.c0
  have m1 := E2.out.c1
  have HB := Lib.hid (Below.refl W2.heap.size W2)
  have hp2 := blk_lt E2.out
  have HRN := Lib.hid hrn
  clear hrn
  go_upto_region 19 with fail
  go_cut [14] (fun v wx => ∃ (g : Nat) (M : Option Addr) (cm : Nat) (dm : List Nat), v = .pointer (some ⟨g, 0, none⟩) ∧ Got3 W2 wx g M dm.length cm ∧ 0 < dm.length)
  case first =>
    go_region_with (first
        | (go_at_call 10; refine (of_val (k : Int) false _ (by omega) (by omega) HK0).mono ?_; rintro e wa ⟨⟨A, ca, da, rfl, hra, hca, hva, hla⟩, hbl⟩; have HB0 := HB; have HB := Lib.hid (by first | exact HB.out.trans (hbl.mono HB.out.size) | exact HB.out.drew.trans (hbl.mono HB.out.drew.size) | exact (below_drewN HB.out _).trans (hbl.mono (below_drewN HB.out _).size) | exact (HB.out.alloc HB.out.size _).trans (hbl.mono (HB.out.alloc HB.out.size _).size) | exact (HB.out.alloc HB.out.size _).drew.trans (hbl.mono (HB.out.alloc HB.out.size _).drew.size)); (first | (have E3 := Lib.hid (E3.out.below hbl)) | (have E3 : Hid (New3 W2 wa W2.heap.size) := Lib.hid (New3.made (X := W2) (Below.refl _ _) ((Below.refl _ _).drew.trans hbl))) | (have E3 := Lib.hid (New3.made HB0.out hbl)) | skip); (try have m2 := E3.out.blk.c0); (try have m3 := E3.out.blk.c1); (try have mf2 := blk_frozen E3.out.blk 0); (try have mf3 := blk_frozen E3.out.blk 1); have m0 := (E2.out.below HB.out).c0; have m1 := (E2.out.below HB.out).c1; have hp2 := blk_lt (E2.out.below HB.out); clear HB0; clear hbl; have HVA := Lib.hid (hva.trans (Int.natAbs_natCast k)); clear hva)
        | (go_at_call 17; refine (turned_any _ _ _ _ _).mono ?_; rintro e wa ⟨rfl, hbl⟩; have hra := Row.below (by first | exact hra | exact hra.below ((Below.refl _ _).alloc (Nat.le_refl _) _) | exact hra.below (Below.refl _ _).drew) hbl; have HB0 := HB; have HB := Lib.hid (by first | exact HB.out.trans (hbl.mono HB.out.size) | exact HB.out.drew.trans (hbl.mono HB.out.drew.size) | exact (below_drewN HB.out _).trans (hbl.mono (below_drewN HB.out _).size) | exact (HB.out.alloc HB.out.size _).trans (hbl.mono (HB.out.alloc HB.out.size _).size) | exact (HB.out.alloc HB.out.size _).drew.trans (hbl.mono (HB.out.alloc HB.out.size _).drew.size)); (first | (have E3 := Lib.hid (E3.out.below hbl)) | (have E3 : Hid (New3 W2 wa W2.heap.size) := Lib.hid (New3.made (X := W2) (Below.refl _ _) ((Below.refl _ _).drew.trans hbl))) | (have E3 := Lib.hid (New3.made HB0.out hbl)) | skip); (try have m2 := E3.out.blk.c0); (try have m3 := E3.out.blk.c1); (try have mf2 := blk_frozen E3.out.blk 0); (try have mf3 := blk_frozen E3.out.blk 1); have m0 := (E2.out.below HB.out).c0; have m1 := (E2.out.below HB.out).c1; have hp2 := blk_lt (E2.out.below HB.out); clear HB0; clear hbl)
        | (go_at_call 16; refine (more_val N A cn ca dn da s k _ (by first | exact HRN.out.below HB.out | exact HRN.out.below HB.out.drew | exact HRN.out.below (below_drewN HB.out _) | exact HRN.out.below (HB.out.alloc HB.out.size _) | exact HRN.out.below (HB.out.alloc HB.out.size _).drew) (by first | exact hra | exact hra.below ((Below.refl _ _).alloc (Nat.le_refl _) _) | exact hra.below (Below.refl _ _).drew) (by omega) (by omega) hcn hca HVA.out HVN.out HHI.out).mono ?_; rintro e wa ⟨⟨M, cm, dm, rfl, HMP⟩, hbl⟩; have HB0 := HB; have HB := Lib.hid (by first | exact HB.out.trans (hbl.mono HB.out.size) | exact HB.out.drew.trans (hbl.mono HB.out.drew.size) | exact (below_drewN HB.out _).trans (hbl.mono (below_drewN HB.out _).size) | exact (HB.out.alloc HB.out.size _).trans (hbl.mono (HB.out.alloc HB.out.size _).size) | exact (HB.out.alloc HB.out.size _).drew.trans (hbl.mono (HB.out.alloc HB.out.size _).drew.size)); (first | (have E3 := Lib.hid (E3.out.below hbl)) | (have E3 : Hid (New3 W2 wa W2.heap.size) := Lib.hid (New3.made (X := W2) (Below.refl _ _) ((Below.refl _ _).drew.trans hbl))) | (have E3 := Lib.hid (New3.made HB0.out hbl)) | skip); (try have m2 := E3.out.blk.c0); (try have m3 := E3.out.blk.c1); (try have mf2 := blk_frozen E3.out.blk 0); (try have mf3 := blk_frozen E3.out.blk 1); have m0 := (E2.out.below HB.out).c0; have m1 := (E2.out.below HB.out).c1; have hp2 := blk_lt (E2.out.below HB.out); clear HB0; clear hbl))
    all_goals
      go_wp2_with fail
      go_meet
      first
        | exact ⟨_, M, cm, dm, rfl, E3.out.got HB.out M dm.length cm, HMP⟩
        | exact ⟨_, M, cm, dm, rfl, got_new HB.out M dm.length cm, HMP⟩
  case rest =>
    obtain ⟨g, M, cm, dm, rfl, hG, hMP⟩ := hcut
    have E3 := Lib.hid hG.blk
    have E1 := Lib.hid (E1.out.below hG.below)
    have HRQ := Lib.hid (hrp.below hG.below)
    have HW := Lib.hid (HW.out.trans (hG.below.mono HW.out.size))
    have hd0 : decide ((0 : Int) < (dm.length : Int)) = true := decide_eq_true (by omega)
    have hd1 : 0 < dm.length := hMP
    have hd2 : dm ≠ [] := by intro h; rw [h] at hMP; simp at hMP
    have hd3 : decide (dm = []) = false := decide_eq_false hd2
    have hd4 : decide (0 < dm.length) = true := decide_eq_true hMP
    clear hG hrp hMP
    have m0 := E1.out.c0
    have m1 := E1.out.c1
    have m2 := E3.out.c0
    have m3 := E3.out.c1
    have HB := Lib.hid (Below.refl wc.heap.size wc)
    go_wp2_with fail
    go_region_held3 (fun w' => w'.cell? ⟨p1, 0, none⟩ = some (.bool false) ∧ w'.cell? ⟨p1, 1, none⟩ = some (.slice P dp.length cp) ∧ w'.cell? ⟨g, 0, none⟩ = some (.bool false) ∧ w'.cell? ⟨g, 1, none⟩ = some (.slice M dm.length cm))
      (go_keep)
      (first
        | (go_at_call 10; go_fit (of_val (l : Int) false _ (by omega) (by omega) HL0); rintro e wa ⟨⟨L, cl, dl, rfl, hrl, hcl, hvl, hll⟩, hbl⟩; (try have hra := Row.below (by exact hra) hbl); have HB := Lib.hid (by first | exact HB.out.trans (hbl.mono HB.out.size) | exact HB.out.drew.trans (hbl.mono HB.out.size) | exact (below_drewN HB.out _).trans (hbl.mono HB.out.size)); have m0 := (E1.out.below HB.out).c0; have m1 := (E1.out.below HB.out).c1; have m2 := (E3.out.below HB.out).c0; have m3 := (E3.out.below HB.out).c1; clear hbl; have HVL := Lib.hid (hvl.trans (Int.natAbs_natCast l)); clear hvl)
        | (go_at_call 10; go_fit (of_val (k : Int) false _ (by omega) (by omega) HK0); rintro e wa ⟨⟨A, ca, da, rfl, hra, hca, hva, hla⟩, hbl⟩; (try have hrl := Row.below (by exact hrl) hbl); (try have hrs := Row.below (by exact hrs) hbl); have HB := Lib.hid (by first | exact HB.out.trans (hbl.mono HB.out.size) | exact HB.out.drew.trans (hbl.mono HB.out.size) | exact (below_drewN HB.out _).trans (hbl.mono HB.out.size)); have m0 := (E1.out.below HB.out).c0; have m1 := (E1.out.below HB.out).c1; have m2 := (E3.out.below HB.out).c0; have m3 := (E3.out.below HB.out).c1; clear hbl; have HVA := Lib.hid (hva.trans (Int.natAbs_natCast k)); clear hva)
        | (go_at_call 16; refine (sq_val P L cp cl dp dl s k l _ (by first | exact HRQ.out.below HB.out | exact HRQ.out.below HB.out.drew | exact HRQ.out.below (below_drewN HB.out _)) (by exact hrl) (by omega) (by omega) hcp hcl HVP.out HVL.out HLO.out HL.out (by omega)).mono ?_; rintro e wa ⟨⟨Q, cq, dq, rfl, hrs, hcs, hls, hvs⟩, hbl⟩; (try have hra := Row.below (by exact hra) hbl); have HB := Lib.hid (by first | exact HB.out.trans (hbl.mono HB.out.size) | exact HB.out.drew.trans (hbl.mono HB.out.size) | exact (below_drewN HB.out _).trans (hbl.mono HB.out.size)); have m0 := (E1.out.below HB.out).c0; have m1 := (E1.out.below HB.out).c1; have m2 := (E3.out.below HB.out).c0; have m3 := (E3.out.below HB.out).c1; clear hbl; have HVS := Lib.hid hvs; clear hvs)
        | (go_at_call 24; refine (eq_val Q A cq ca dq da k _ (by exact hrs) (by exact hra) (by omega) (by omega) hcs hca HVS.out HVA.out).mono ?_; rintro e wa ⟨rfl, hbl⟩; have HB := Lib.hid (by first | exact HB.out.trans (hbl.mono HB.out.size) | exact HB.out.drew.trans (hbl.mono HB.out.size) | exact (below_drewN HB.out _).trans (hbl.mono HB.out.size)); have m0 := (E1.out.below HB.out).c0; have m1 := (E1.out.below HB.out).c1; have m2 := (E3.out.below HB.out).c0; have m3 := (E3.out.below HB.out).c1; clear hbl)
        | (go_at_call 18; refine (lives_any _ (ht.below (by first | exact HW.out.trans (HB.out.mono HW.out.size) | exact (HW.out.trans (HB.out.mono HW.out.size)).drew))).mono ?_; rintro e wa ⟨rfl, hbl⟩; have HB := Lib.hid (by first | exact HB.out.trans (hbl.mono HB.out.size) | exact HB.out.drew.trans (hbl.mono HB.out.size) | exact (below_drewN HB.out _).trans (hbl.mono HB.out.size)); have m0 := (E1.out.below HB.out).c0; have m1 := (E1.out.below HB.out).c1; have m2 := (E3.out.below HB.out).c0; have m3 := (E3.out.below HB.out).c1; clear hbl))
    go_wp2_with fail
    go_ret
    exact ⟨rfl, by first | exact HW.out.trans (HB.out.mono HW.out.size) | exact (HW.out.trans (HB.out.mono HW.out.size)).drew⟩

end Go.Proofs.YtfjoahbboglgfaaDoor
