/- The document's Parse of texts without a sign. -/
import Derived.Test.YtfjoahbboglgfaaDoorRParse
namespace Go.Proofs.YtfjoahbboglgfaaDoor
open Go.RowKit

set_option maxHeartbeats 6400000 in
set_option maxRecDepth 100000 in
theorem rparse_n (b : Nat) (c0 : UInt8) (t0 : List UInt8) (w : World) (hb : 2 ≤ b) (hb2 : b ≤ 16) (hl : (c0 :: t0).length ≤ 1000) (h45 : c0 ≠ 45) (h43 : c0 ≠ 43) :
    Calls Tryd.prog 29 #[.string ⟨(c0 :: t0).toArray⟩, .int .i64 (b : Int)] w fun e w' => e = .returned (.tuple #[.int .i64 (parseV b (c0 :: t0)), .int .i64 (parseE b (c0 :: t0))]) ∧ Below w.heap.size w w' := by
  have hG : cutG (c0 :: t0) = 1 := by unfold cutG; split <;> simp_all
  have hR : cutR (c0 :: t0) = c0 :: t0 := by unfold cutR; split <;> simp_all
  have HG := Lib.hid hG
  have HR := Lib.hid hR
  have hget0 : ∀ h, ((⟨(c0 :: t0).toArray⟩ : ByteArray)[0]'h) = c0 := fun _ => rfl
  have h1B : ((c0.toNat : Int) == 45) = false := u8_ne (k := 45) rfl h45
  have h2B : ((c0.toNat : Int) == 43) = false := u8_ne (k := 43) rfl h43
  clear hG hR h45 h43
  have hbd1 : decide ((b : Int) < 2) = false := decide_eq_false (by omega)
  have hbd2 : decide ((16 : Int) < (b : Int)) = false := decide_eq_false (by omega)
  have hfl := field_1
  have H0 : Hid (RPRel w (w.alloc (.cells #[.bool false, .slice none 0 0] 24)) false b (c0 :: t0) 0 none 0 []) := Lib.hid ⟨heap_alloc_new w _, Row.nil, Canon.nil, rfl, (Below.refl _ _).alloc (Nat.le_refl _) _⟩
  have HXB : Hid (decide ((b : Int) < 0) = false) := Lib.hid (decide_eq_false (by omega))
  simp at hl
  have h39 : ((0 : Int) == (t0.length : Int) + 1) = false := beq_eq_false_iff_ne.2 (by omega)
  go_enter Tryd.func29, Tryd.ntmps29
  go_wp2_with fail
  go_loop [8] (fun iv => ∃ k : Nat, iv = .int .i64 (k : Int) ∧ k ≤ t0.length + 1 ∧ Hid (okT b ((c0 :: t0).take k) = true)) (fun iv => t0.length + 1 - (intOf iv).toNat)
  case atStart => exact ⟨0, rfl, by omega, Lib.hid rfl⟩
  case round =>
    obtain ⟨k, rfl, hk, HOK⟩ := hrel
    by_cases hkl : k < t0.length + 1
    · have hkD : k < (c0 :: t0).length := by simpa using hkl
      obtain ⟨cc, HC⟩ : ∃ c, Hid ((c0 :: t0)[k]'hkD = c) := ⟨_, rfl⟩
      have hget : ∀ h, ((⟨(c0 :: t0).toArray⟩ : ByteArray)[k]'h) = cc := fun _ => HC.out
      have hc256 : cc.toNat < 256 := cc.toNat_lt
      by_cases hdg : dgC cc < b
      · obtain ⟨d, HDD⟩ : ∃ d, Hid (dgN cc.toNat = d) := ⟨_, rfl⟩
        have hdb : d < b := by rw [← HDD.out]; exact hdg
        have hd1 : decide ((d : Int) < 0) = false := decide_eq_false (by omega)
        have hd2 : decide ((b : Int) ≤ (d : Int)) = false := decide_eq_false (by omega)
        have HOK2 : Hid (okT b ((c0 :: t0).take (k + 1)) = true) := by
          unfold Hid
          rw [take_at _ k hkD, okT_snoc, HOK.out, HC.out]
          simpa using hdg
        clear hdg
        go_wp2_with fail
        refine (digit_yes cc.toNat d _ hc256 HDD (by omega)).mono ?_
        rintro e w' ⟨rfl, rfl⟩
        go_wp2_with fail
        go_round
        case rel => exact ⟨k + 1, by go_num, by omega, HOK2⟩
        case measure => simp [intOf]; omega
      · have HBAD := Lib.hid (parse_bad (b := b) (L := (c0 :: t0)) (.inr (by rw [HR.out]; exact ok_false hkD (by rw [HC.out]; exact hdg))))
        rcases dg_or cc.toNat with hd | hd
        · obtain ⟨d, HDD⟩ : ∃ d, Hid (dgN cc.toNat = d) := ⟨_, rfl⟩
          have hdb : b ≤ d := by rw [← HDD.out]; exact Nat.le_of_not_lt hdg
          have hd16 : d < 16 := by rw [← HDD.out]; exact hd
          have hd1 : decide ((d : Int) < 0) = false := decide_eq_false (by omega)
          have hd2 : decide ((b : Int) ≤ (d : Int)) = true := decide_eq_true (by omega)
          clear hdg hd
          go_wp2_with fail
          refine (digit_yes cc.toNat d _ hc256 HDD (by omega)).mono ?_
          rintro e w' ⟨rfl, rfl⟩
          go_wp2_with fail
          go_ret2
          exact ⟨ret_parse HBAD.out.1.symm HBAD.out.2.symm, H0.out.below⟩
        · have HDD := Lib.hid hd
          clear hdg hd
          go_wp2_with fail
          refine (digit_no cc.toNat _ hc256 HDD).mono ?_
          rintro e w' ⟨rfl, rfl⟩
          go_wp2_with fail
          go_ret2
          exact ⟨ret_parse HBAD.out.1.symm HBAD.out.2.symm, H0.out.below⟩
    · have HGOOD : Hid (¬ (cutR (c0 :: t0) = [] ∨ okT b (cutR (c0 :: t0)) = false)) := by
        unfold Hid
        rw [HR.out]
        rintro (h | h)
        · cases h
        · have h9 := HOK.out
          rw [List.take_of_length_le (by simp; omega)] at h9
          rw [h9] at h; cases h
      have HALL : Hid (okT b (c0 :: t0) = true) := by
        have h9 := HOK.out
        rw [List.take_of_length_le (by simp; omega)] at h9
        exact h9
      clear HOK
      go_wp2_with fail
      go_loopw [10] (fun iv wr => ∃ (k : Nat) (A : Option Addr) (c : Nat) (ds : List Nat), iv = .int .i64 (k : Int) ∧ k ≤ t0.length + 1 ∧ ds.length ≤ 42 ∧ RPRel w wr false b (c0 :: t0) k A c ds) (fun iv _ => t0.length + 1 - (intOf iv).toNat)
      case atStart => exact ⟨0, none, 0, [], rfl, by omega, by simp, H0.out⟩
      case round =>
        obtain ⟨k, A, c, ds, rfl, hk, hdl42, hr⟩ := hrel
        have m0 := hr.blk.c0
        have m1 := hr.blk.c1
        have HRP := Lib.hid hr
        clear hr
        by_cases hkl : k < t0.length + 1
        · have hkD : k < (c0 :: t0).length := by simpa using hkl
          obtain ⟨cc, HC⟩ : ∃ c, Hid ((c0 :: t0)[k]'hkD = c) := ⟨_, rfl⟩
          have hget : ∀ h, ((⟨(c0 :: t0).toArray⟩ : ByteArray)[k]'h) = cc := fun _ => HC.out
          have hc256 : cc.toNat < 256 := cc.toNat_lt
          have hdg : dgC cc < b := by
            have h9 := List.all_eq_true.1 HALL.out (c0 :: t0)[k] (List.getElem_mem hkD)
            rw [HC.out] at h9
            simpa using h9
          obtain ⟨d, HDD⟩ : ∃ d, Hid (dgN cc.toNat = d) := ⟨_, rfl⟩
          have hdb : d < b := by rw [← HDD.out]; exact hdg
          have HXD : Hid (decide ((d : Int) < 0) = false) := Lib.hid (decide_eq_false (by omega))
          have HVN : Hid (valT b ((c0 :: t0).take (k + 1)) = valT b ((c0 :: t0).take k) * b + d) := by
            unfold Hid
            rw [take_at _ k hkD, valT_snoc, HC.out, show dgC cc = d from HDD.out]
          clear hdg
          by_cases h40 : 40 < ds.length
          · have hgt : decide ((40 : Int) < (ds.length : Int)) = true := decide_eq_true (by omega)
            have HFAR := Lib.hid (parse_far (b := b) (L := (c0 :: t0)) HGOOD.out (by rw [HR.out, HG.out]; exact row_far HRP.out.canon h40 HRP.out.sum (valT_mono b (by omega) _ _) (by first | exact .inl rfl | exact .inr rfl)))
            clear h40
            go_wp2_with fail
            go_ret2
            exact ⟨ret_parse HFAR.out.1.symm HFAR.out.2.symm, HRP.out.below⟩
          · have hgt : decide ((40 : Int) < (ds.length : Int)) = false := decide_eq_false (by omega)
            have hdl : ds.length ≤ 40 := by omega
            have HB := Lib.hid (Below.refl wr.heap.size wr)
            clear h40 hget0 hbd1 hbd2 h39 hk H0 HALL
            clear h1B h2B
            go_wp2_with fail
            go_region_with (first
              | (go_at_call 10; refine (of_val _ false _ (by omega) (by omega) (by first | exact HXB | exact HXD)).mono ?_; rintro e wv ⟨⟨O, co, od, rfl, hro, hco, hvo, hlo⟩, hbl⟩; (try have hrp := Row.below (by exact hrp) hbl); have HB := Lib.hid (by first | exact HB.out.trans (hbl.mono HB.out.size) | exact HB.out.drew.trans (hbl.mono HB.out.size) | exact (below_drewN HB.out _).trans (hbl.mono HB.out.size)); have m0 := (HRP.out.blk.below HB.out).c0; have m1 := (HRP.out.blk.below HB.out).c1; have mf := blk_frozen (HRP.out.blk.below HB.out) 1; have HVO := Lib.hid hvo; clear hvo hbl)
              | (go_at_call 20; refine (prod_val O A co c od ds false false false _ (by exact hro) (by first | exact HRP.out.row.below HB.out | exact HRP.out.row.below HB.out.drew | exact HRP.out.row.below (below_drewN HB.out _)) (by omega) (by omega) hco HRP.out.canon rfl).mono ?_; rintro e wv ⟨⟨P, cp, pd, rfl, hrp, hcp, hvp, hlp⟩, hbl⟩; have HB := Lib.hid (by first | exact HB.out.trans (hbl.mono HB.out.size) | exact HB.out.drew.trans (hbl.mono HB.out.size) | exact (below_drewN HB.out _).trans (hbl.mono HB.out.size)); have m0 := (HRP.out.blk.below HB.out).c0; have m1 := (HRP.out.blk.below HB.out).c1; have mf := blk_frozen (HRP.out.blk.below HB.out) 1; have HVP := Lib.hid (hvp.trans (by rw [HVO.out])); clear hvp hbl)
              | (go_at_call 42; refine (digit_yes cc.toNat d _ hc256 HDD (by omega)).mono ?_; rintro e wv ⟨rfl, hwv⟩; subst hwv)
              | (go_at_call 33; refine (plus_any P O cp co pd od _ (by exact hrp) (by exact hro) (by omega) (by omega) hcp.1 hco.1).mono ?_; rintro e wv ⟨⟨Q, cq, qd, rfl, hrq, hcq, hvq⟩, hbl⟩; have HB := Lib.hid (by first | exact HB.out.trans (hbl.mono HB.out.size) | exact HB.out.drew.trans (hbl.mono HB.out.size) | exact (below_drewN HB.out _).trans (hbl.mono HB.out.size)); have m0 := (HRP.out.blk.below HB.out).c0; have m1 := (HRP.out.blk.below HB.out).c1; have mf := blk_frozen (HRP.out.blk.below HB.out) 1; have HVQ := Lib.hid hvq; clear hvq hbl))
            all_goals
              go_wp2_with fail
              go_roundw
            all_goals first
              | (case rel => exact ⟨k + 1, Q, cq, qd, by go_num, by omega, rp_len HRP.out.canon.1 (by omega) hcq HVQ.out HVP.out HVO.out hb2 hdb, HRP.out.put HB.out hrq hcq (rp_sum HVQ.out HVP.out HVO.out HRP.out.sum HVN.out)⟩)
              | (case measure => simp [intOf]; omega)
        · have hke : (c0 :: t0).take k = c0 :: t0 := List.take_of_length_le (by simp; omega)
          obtain ⟨z, HZZ⟩ : ∃ z, Hid (cutG (c0 :: t0) * (valT b (cutR (c0 :: t0)) : Int) = z) := ⟨_, rfl⟩
          have HZ : Hid (sgn false (val ds) = z) := by
            unfold Hid
            rw [← HZZ.out, HRP.out.sum, hke, HR.out, HG.out]
            first
              | (rw [sgn_f]; omega)
              | (rw [sgn_t]; omega)
          have hint := fun w h => int_val A c ds false z w h (by omega) HRP.out.canon HZ
          by_cases hf : Is64 z
          · rw [fitV_yes hf, fitB_yes hf] at hint
            have HINT := Lib.hid hint
            have HFIT := Lib.hid (parse_fit (b := b) (L := (c0 :: t0)) HGOOD.out (by rw [HZZ.out]; exact hf))
            clear hint hf hke
            go_wp2_with fail
            refine (HINT.out _ HRP.out.row).mono ?_
            rintro e wv ⟨rfl, hbl⟩
            have HB := Lib.hid (HRP.out.below.trans (hbl.mono HRP.out.below.size))
            clear hbl
            go_wp2_with fail
            go_ret2
            exact ⟨ret_parse (HZZ.out.symm.trans HFIT.out.1.symm) HFIT.out.2.symm, HB.out⟩
          · rw [fitV_no hf, fitB_no hf] at hint
            have HINT := Lib.hid hint
            have HFAR := Lib.hid (parse_far (b := b) (L := (c0 :: t0)) HGOOD.out (by rw [HZZ.out]; exact hf))
            clear hint hf hke
            go_wp2_with fail
            refine (HINT.out _ HRP.out.row).mono ?_
            rintro e wv ⟨rfl, hbl⟩
            have HB := Lib.hid (HRP.out.below.trans (hbl.mono HRP.out.below.size))
            clear hbl
            go_wp2_with fail
            go_ret2
            exact ⟨ret_parse HFAR.out.1.symm HFAR.out.2.symm, HB.out⟩

end Go.Proofs.YtfjoahbboglgfaaDoor
