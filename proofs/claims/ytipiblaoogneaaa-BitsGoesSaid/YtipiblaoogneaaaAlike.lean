/- Is a set as a row of truths? -/
import Derived.Test.YtipiblaoogneaaaLives
namespace Go.Proofs.Ytipiblaoogneaaa
open Go.RowKit

set_option maxRecDepth 20000 in
set_option maxHeartbeats 3200000 in
theorem alike_any {w : World} {g b n : Nat} {f : Nat → Bool} (h : Sat w g b n f) (p : Option Addr) (c : Nat) (hB : Bls w p n f) :
    Calls Try.prog 14 #[.pointer (some ⟨g, 0, none⟩), .slice p n c] w fun e w' => e = .returned (.bool true) ∧ Below w.heap.size w w' := by
  have H := Lib.hid h
  have HB := Lib.hid hB
  have HSub := Lib.hid h.sub
  have HN := Lib.hid h.le
  have hnn : ((n : Int) != (n : Int)) = false := by simp
  have hcc : ((cnt f n : Int) != (cnt f n : Int)) = false := by simp
  obtain ⟨S, hS⟩ : ∃ S, strB (rowF f (need n)) = S := ⟨_, rfl⟩
  have hSS : (S.toList != S.toList) = false := by simp
  have HS := Lib.hid hS
  clear h hB hS
  go_enter Try.func14, Try.ntmps14
  go_upto_region 1 with fail
  go_cut [25] (fun v wx => v = .bool false ∧ Hid (Below w.heap.size w wx))
  case first =>
   go_region_with (first
    | (go_at_call 10; refine (size_any (H.out.below (by first | exact (Below.refl _ _).drew | assumption))).mono ?_; rintro e w1 ⟨rfl, rfl⟩)
    | (go_at_call 17; refine (bytes_any (H.out.below (by exact (Below.refl _ _).drew))).mono ?_; rintro e w2 ⟨⟨pb, cb, rfl, hY⟩, hb2⟩; have hcv := hY.conv cb; rw [HS.out] at hcv; have hw2 := Below.trans (Below.refl _ _).drew hb2)
    | (go_at_call 26; refine (rbytes_any p n c f _ (by have := HN.out; omega) HSub.out (HB.out.below hw2)).mono ?_; rintro e w3 ⟨rfl, hb3⟩; rw [HS.out]; have hcv := (hY.below hb3).conv cb; rw [HS.out] at hcv; have hw3 := Below.more hw2 hb3 hw2.size)
    | (go_at_call 29; refine (count_any (H.out.below hw3)).mono ?_; rintro e w4 ⟨rfl, hb4⟩; have hw4 := Below.more hw3 hb4 hw3.size)
    | (go_at_call 32; refine (rcount_any p n c f _ (by have := HN.out; omega) (HB.out.below hw4)).mono ?_; rintro e w5 ⟨rfl, rfl⟩))
   all_goals go_wp2_with fail
   all_goals go_meet
   all_goals exact ⟨rfl, Lib.hid hw4⟩
  case rest =>
  obtain ⟨rfl, HW⟩ := hcut
  clear hcc hSS hnn
  go_wp2_with fail
  go_loopw [5] (fun iv wr => ∃ x : Int, -1 ≤ x ∧ x ≤ (n : Int) + 1 ∧ iv = .int .i64 x ∧ Below w.heap.size w wr) (fun iv _ => ((n : Int) + 1 - intOf iv).toNat)
  case atStart => exact ⟨-1, by omega, by omega, rfl, HW.out⟩
  case round =>
    obtain ⟨x, hx1, hx2, rfl, hbw⟩ := hrel
    have HBW := Lib.hid hbw
    have hnz : (n : Int) ≤ 2048 := by have := HN.out; omega
    clear hbw
    by_cases hle : x ≤ (n : Int)
    · have hdl : decide (x ≤ (n : Int)) = true := decide_eq_true hle
      have HH := Lib.hid (has_any (H.out.below HBW.out) x)
      have HNX : Hid (∀ w', Below w.heap.size w w' → Calls Try.prog 33 #[.pointer (some ⟨g, 0, none⟩), .int .i64 x] w' fun e w2 => e = .returned (.int .i64 (num (nxt f n x.toNat))) ∧ w' = w2) := Lib.hid fun w' hb => next_any (H.out.below hb) x (by omega)
      have HGP : Hid (∀ w', Below w.heap.size w w' → Calls Try.prog 35 #[.pointer (some ⟨g, 0, none⟩), .int .i64 x] w' fun e w2 => e = .returned (.int .i64 (num (nxt (gap f) n x.toNat))) ∧ w' = w2) := Lib.hid fun w' hb => gap_any (H.out.below hb) x (by omega)
      have HF1 : Hid (∀ w', Below w.heap.size w w' → Calls Try.prog 34 #[.slice p n c, .int .i64 x, .bool true] w' fun e w2 => e = .returned (.int .i64 (num (nxt f n x.toNat))) ∧ w' = w2) := Lib.hid fun w' hb => by
        have h2 := find_any p n c f x false w' (by have := HN.out; omega) (by omega) (HB.out.below hb)
        rwa [sook_false] at h2
      have HF2 : Hid (∀ w', Below w.heap.size w w' → Calls Try.prog 34 #[.slice p n c, .int .i64 x, .bool false] w' fun e w2 => e = .returned (.int .i64 (num (nxt (gap f) n x.toNat))) ∧ w' = w2) := Lib.hid fun w' hb => by
        have h2 := find_any p n c f x true w' (by have := HN.out; omega) (by omega) (HB.out.below hb)
        rwa [sook_true] at h2
      have hv1 : (num (nxt f n x.toNat) != num (nxt f n x.toNat)) = false := by simp
      have hv2 : (num (nxt (gap f) n x.toNat) != num (nxt (gap f) n x.toNat)) = false := by simp
      by_cases hin : 0 ≤ x ∧ x < (n : Int)
      · obtain ⟨i, rfl⟩ := Int.eq_ofNat_of_zero_le hin.1
        have hi : i < n := by omega
        obtain ⟨b2, o2, rfl, hc⟩ := HB.out.at (by omega)
        have HC := Lib.hid (hc i hi)
        have hd1 : decide ((0 : Int) ≤ (i : Int)) = true := decide_eq_true hin.1
        have hd2 : decide ((i : Int) < (n : Int)) = true := decide_eq_true hin.2
        have hlt := World.block_lt_of_cell? w _ (hc i hi)
        have HLT := Lib.hid hlt
        rw [hasI_nat] at HH
        have hff : (f i != f i) = false := by simp
        clear hin hc hlt hle
        generalize num (nxt f n ((i : Int)).toNat) = V1 at *
        generalize num (nxt (gap f) n ((i : Int)).toNat) = V2 at *
        generalize f i = y at *
        go_wp2_with (first
          | (go_at_call 21; refine HH.out.mono ?_; rintro e w2 ⟨rfl, hb2⟩; have hw2 := Below.more HBW.out hb2 HBW.out.size; have hcell := (hw2.cell (p := ⟨b2, o2 + i, none⟩) HLT.out).trans HC.out)
          | (go_at_call 33; refine (HNX.out _ hw2).mono ?_; rintro e w3 ⟨rfl, rfl⟩)
          | (go_at_call 35; refine (HGP.out _ hw2).mono ?_; rintro e w3 ⟨rfl, rfl⟩)
          | (go_at_call 34; go_fit (HF1.out _ hw2); rintro e w3 ⟨rfl, rfl⟩)
          | (go_at_call 34; go_fit (HF2.out _ hw2); rintro e w3 ⟨rfl, rfl⟩))
        go_roundw
        case rel => exact ⟨(i : Int) + 1, by omega, by omega, by go_num, hw2⟩
        case measure => simp [intOf]; omega
      · have hh : hasI f x = false := hasI_out HSub.out hin
        rw [hh] at HH
        have hz1 : -9223372036854775808 ≤ x := by omega
        by_cases h0 : 0 ≤ x
        · have hd1 : decide ((0 : Int) ≤ x) = true := decide_eq_true h0
          have hd2 : decide (x < (n : Int)) = false := decide_eq_false (by omega)
          have HLE := Lib.hid hle
          clear hin hle
          generalize num (nxt f n x.toNat) = V1 at *
          generalize num (nxt (gap f) n x.toNat) = V2 at *
          go_wp2_with (first
            | (go_at_call 21; refine HH.out.mono ?_; rintro e w2 ⟨rfl, hb2⟩; have hw2 := Below.more HBW.out hb2 HBW.out.size)
            | (go_at_call 33; refine (HNX.out _ hw2).mono ?_; rintro e w3 ⟨rfl, rfl⟩)
            | (go_at_call 35; refine (HGP.out _ hw2).mono ?_; rintro e w3 ⟨rfl, rfl⟩)
            | (go_at_call 34; go_fit (HF1.out _ hw2); rintro e w3 ⟨rfl, rfl⟩)
            | (go_at_call 34; go_fit (HF2.out _ hw2); rintro e w3 ⟨rfl, rfl⟩))
          go_roundw
          case rel => exact ⟨x + 1, by omega, by have := HLE.out; omega, by go_num, hw2⟩
          case measure => have := HLE.out; simp [intOf]; omega
        · have hd1 : decide ((0 : Int) ≤ x) = false := decide_eq_false h0
          have HLE := Lib.hid hle
          clear hin hle
          generalize num (nxt f n x.toNat) = V1 at *
          generalize num (nxt (gap f) n x.toNat) = V2 at *
          go_wp2_with (first
            | (go_at_call 21; refine HH.out.mono ?_; rintro e w2 ⟨rfl, hb2⟩; have hw2 := Below.more HBW.out hb2 HBW.out.size)
            | (go_at_call 33; refine (HNX.out _ hw2).mono ?_; rintro e w3 ⟨rfl, rfl⟩)
            | (go_at_call 35; refine (HGP.out _ hw2).mono ?_; rintro e w3 ⟨rfl, rfl⟩)
            | (go_at_call 34; go_fit (HF1.out _ hw2); rintro e w3 ⟨rfl, rfl⟩)
            | (go_at_call 34; go_fit (HF2.out _ hw2); rintro e w3 ⟨rfl, rfl⟩))
          go_roundw
          case rel => exact ⟨x + 1, by omega, by have := HLE.out; omega, by go_num, hw2⟩
          case measure => have := HLE.out; simp [intOf]; omega
    · have hdl : decide (x ≤ (n : Int)) = false := decide_eq_false hle
      go_wp2_with fail
      go_ret
      exact ⟨rfl, HBW.out⟩
end Go.Proofs.Ytipiblaoogneaaa
