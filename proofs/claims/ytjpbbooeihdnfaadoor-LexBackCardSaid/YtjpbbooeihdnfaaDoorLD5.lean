/- The scanner takes a word. -/
import Derived.Test.YtjpbbooeihdnfaaDoorLD4
set_option maxRecDepth 20000
set_option linter.unusedSimpArgs false
set_option linter.unusedVariables false
namespace Go.Proofs.YtjpbbooeihdnfaaDoor
open Go.RowKit

theorem wsz_le (L : List UInt8) : wsz L ≤ L.length := by
  unfold wsz pre
  have h1 : wordK L ≤ L.length := by unfold wordK; split <;> omega
  have h2 := (List.takeWhile_sublist (l := L.drop (wordK L)) inW).length_le
  rw [List.length_drop] at h2
  omega
section
variable {w w' : World} {B b a : Nat} {S : ByteArray} {v : Value} {tight : Bool} {l : List (Tk × Nat)}
set_option maxHeartbeats 3200000 in
theorem Scn.word (h : Scn w B b S a v tight l) (hE : Env w) (hS : S.size ≤ 5000) (ha : a < S.size) (hl : l.length ≤ a) :
    Calls Tryd.prog 22 #[.pointer (some ⟨b, 0, none⟩)] w fun e w' => StR w w' B b S a l (wrdM ((tl S).drop a)) e := by
  obtain ⟨⟨c0, c1, c2, c3⟩, fz⟩ := h.cells
  have HH := Lib.hid h
  obtain ⟨R, hR⟩ : ∃ R, S.extract a S.size = R := ⟨_, rfl⟩
  have hRt : tl R = (tl S).drop a := by rw [← hR, tl_from]
  have hxl : R.size = S.size - a := by rw [← tl_len, hRt, List.length_drop, tl_len]
  rw [← hRt]
  have hws := fun w => wordSize_any R w (by omega)
  obtain ⟨n, hn⟩ : ∃ n, wsz (tl R) = n := ⟨_, rfl⟩
  have hnR : n ≤ R.size := by rw [← hn, ← tl_len]; exact wsz_le _
  rw [hn] at hws
  obtain ⟨W, hW⟩ : ∃ W, R.extract 0 n = W := ⟨_, rfl⟩
  have hWt : tl W = (tl R).take n := by rw [← hW, tl_to]
  have hWl : W.size = n := by rw [← tl_len, hWt, List.length_take, tl_len]; omega
  obtain ⟨RQ, hRQ⟩ : ∃ RQ, wrdM (tl R) = RQ := ⟨_, rfl⟩
  rw [hRQ]
  unfold wrdM at hRQ
  rw [hn, ← hWt] at hRQ
  have hwo := fun w hE => wordOf_any W w hE (by omega)
  have hhb := fun w => highByte_any W w (by omega)
  obtain ⟨⟨⟨tk, tn, ts⟩, e0⟩, hM⟩ : ∃ M, wordM (tl W) = M := ⟨_, rfl⟩
  rw [hM] at hwo hRQ
  dsimp only at hRQ
  unfold askV tkC at hwo
  dsimp only at hwo
  obtain ⟨T, hT⟩ : ∃ T : ByteArray, T = ⟨ts.toArray⟩ := ⟨_, rfl⟩
  rw [← hT] at hwo
  have HWO := Lib.hid hwo
  have HWS := Lib.hid hws
  have haI : (a : Int) < (S.size : Int) := by omega
  have hSI : (S.size : Int) ≤ 5000 := by omega
  have hnI : (n : Int) ≤ (R.size : Int) := by omega
  have HAN : Hid (a + n ≤ S.size) := Lib.hid (by omega)
  have hlen : ((tl W).length : Nat) = n := by rw [tl_len]; exact hWl
  have HEW := Lib.hid hE
  have hb0 := fun w1 : World => alloc_below w1 (.cells #[.int .i64 (tk : Int), .int .i64 tn, .string T, .int .i64 0] 30)
  have HB0 := Lib.hid hb0
  clear hb0
  have HRN := Lib.hid hnR
  have HWL := Lib.hid hWl
  have HTT := Lib.hid hT
  rw [hlen] at hRQ
  clear h hE hwo hws hn hM hRt hWt hxl hlen fz hWl hT hnR
  by_cases h0 : e0 = 0
  · subst h0
    rw [if_neg (by decide)] at hRQ
    cases hq : hiB (tl W) with
    | some j =>
      rw [hq] at hRQ
      unfold hbV at hhb
      rw [hq] at hhb
      have HHB := Lib.hid hhb
      have HRQ : Hid (St.err j 4 = RQ) := hRQ
      have hj : j < n := by
        obtain ⟨h1, _⟩ := List.findIdx?_eq_some_iff_getElem.1 hq
        rw [tl_len, HWL.out] at h1; exact h1
      have hjI : (a : Int) + (j : Int) ≤ 5000 := by have := HAN.out; omega
      clear hRQ hhb hq
      go_enter Tryd.func22, Tryd.ntmps22
      go_wp2_with fail
      go_quiet (fail)
      have HS1 := Lib.hid (HH.out.below (below_drewN (Below.refl _ _) nq))
      have HB1 : Hid (Below w.heap.size w (w.drewN nq)) := Lib.hid (below_drewN (Below.refl _ _) nq)
      generalize w.drewN nq = w1 at *
      clear c0 c1 c2 c3
      go_upto_region 4 with (first
        | (go_at_call 38; refine (HWS.out _).mono ?_; rintro e w' ⟨rfl, rfl⟩)
        | (go_at_call 39; refine (HWO.out _ (HEW.out.below HB1.out)).mono ?_; rintro e w2 ⟨rfl, hb2⟩; have HB2 := Lib.hid hb2; clear hb2))
      have hb3 := HB0.out w2
      generalize w2.alloc (.cells #[.int .i64 (tk : Int), .int .i64 tn, .string T, .int .i64 0] 30) = w3 at *
      have HS3 := Lib.hid ((HS1.out.below HB2.out).below hb3)
      have HB3 : Hid (Below w.heap.size w w3) := Lib.hid (HB1.out.trans ((HB2.out.trans (hb3.mono HB2.out.size)).mono HB1.out.size))
      obtain ⟨⟨k0, k1, k2, k3⟩, kz⟩ := HS3.out.cells
      clear kz hb3
      go_wp2_with (go_at_call 29; refine (HHB.out _).mono ?_; rintro e w' ⟨rfl, rfl⟩)
      go_ret2
      rw [← HRQ.out]
      refine StR.err (HB3.out.mono HH.out.base) ?_
      rw [Int.natCast_add]
      rfl
    | none =>
      rw [hq] at hRQ
      unfold hbV at hhb
      rw [hq] at hhb
      have HHB := Lib.hid hhb
      have HRQ : Hid (St.tok ⟨tk, tn, ts⟩ n true = RQ) := hRQ
      have hWI : (W.size : Int) = (n : Int) := by rw [HWL.out]
      clear hRQ hhb hq
      go_enter Tryd.func22, Tryd.ntmps22
      go_wp2_with fail
      go_quiet (fail)
      have HS1 := Lib.hid (HH.out.below (below_drewN (Below.refl _ _) nq))
      have HB1 : Hid (Below w.heap.size w (w.drewN nq)) := Lib.hid (below_drewN (Below.refl _ _) nq)
      generalize w.drewN nq = w1 at *
      clear c0 c1 c2 c3
      go_upto_region 4 with (first
        | (go_at_call 38; refine (HWS.out _).mono ?_; rintro e w' ⟨rfl, rfl⟩)
        | (go_at_call 39; refine (HWO.out _ (HEW.out.below HB1.out)).mono ?_; rintro e w2 ⟨rfl, hb2⟩; have HB2 := Lib.hid hb2; clear hb2))
      have hb3 := HB0.out w2
      have hx3 := heap_alloc_new w2 (.cells #[.int .i64 (tk : Int), .int .i64 tn, .string T, .int .i64 0] 30)
      generalize w2.alloc (.cells #[.int .i64 (tk : Int), .int .i64 tn, .string T, .int .i64 0] 30) = w3 at *
      have HS3 := Lib.hid ((HS1.out.below HB2.out).below hb3)
      have HB3 : Hid (Below w.heap.size w w3) := Lib.hid (HB1.out.trans ((HB2.out.trans (hb3.mono HB2.out.size)).mono HB1.out.size))
      have d0 := cell_of_row _ _ 0 _ _ _ hx3
      have d1 := cell_of_row _ _ 1 _ _ _ hx3
      have d2 := cell_of_row _ _ 2 _ _ _ hx3
      have d3 := cell_of_row _ _ 3 _ _ _ hx3
      simp at d0 d1 d2 d3
      clear hb3 hx3
      have HTK : Hid (Calls Tryd.prog 34 #[.pointer (some ⟨b, 0, none⟩), .agg #[.int .i64 (tk : Int), .int .i64 tn, .string T, .int .i64 0], .int .i64 (n : Int), .bool true] w3 fun e w' => e = .returned (.tuple #[.int .i64 0, .int .i64 0]) ∧ Below B w3 w' ∧ ∃ v', Scn w' B b S (a + n) v' true (l ++ [(⟨tk, tn, ts⟩, a)])) := by
        have h := HS3.out.take hS ⟨tk, tn, ts⟩ n true HAN.out hl
        unfold tkC at h
        dsimp only at h
        rw [← HTT.out] at h
        exact h
      go_wp2_with (first
        | (go_at_call 29; refine (HHB.out _).mono ?_; rintro e w' ⟨rfl, rfl⟩)
        | (go_at_call 34; refine HTK.out.mono ?_; rintro e w5 ⟨rfl, hb5, hs5⟩; have HS5 := Lib.hid hs5; have HB5 := Lib.hid ((HB3.out.mono HH.out.base).trans hb5); clear hs5 hb5))
      go_ret2
      rw [← HRQ.out]
      exact StR.tok HB5.out rfl HS5.out
  · have hne : (e0 != 0) = true := bne_iff_ne.2 h0
    rw [if_pos h0] at hRQ
    have HRQ : Hid (St.err 0 e0 = RQ) := hRQ
    clear hRQ h0 hhb
    go_enter Tryd.func22, Tryd.ntmps22
    go_wp2_with fail
    go_quiet (fail)
    have HS1 := Lib.hid (HH.out.below (below_drewN (Below.refl _ _) nq))
    have HB1 : Hid (Below w.heap.size w (w.drewN nq)) := Lib.hid (below_drewN (Below.refl _ _) nq)
    generalize w.drewN nq = w1 at *
    clear c0 c1 c2 c3
    go_upto_region 4 with (first
      | (go_at_call 38; refine (HWS.out _).mono ?_; rintro e w' ⟨rfl, rfl⟩)
      | (go_at_call 39; refine (HWO.out _ (HEW.out.below HB1.out)).mono ?_; rintro e w2 ⟨rfl, hb2⟩; have HB2 := Lib.hid hb2; clear hb2))
    have hb3 := HB0.out w2
    generalize w2.alloc (.cells #[.int .i64 (tk : Int), .int .i64 tn, .string T, .int .i64 0] 30) = w3 at *
    have HS3 := Lib.hid ((HS1.out.below HB2.out).below hb3)
    have HB3 : Hid (Below w.heap.size w w3) := Lib.hid (HB1.out.trans ((HB2.out.trans (hb3.mono HB2.out.size)).mono HB1.out.size))
    obtain ⟨⟨k0, k1, k2, k3⟩, kz⟩ := HS3.out.cells
    clear kz hb3
    go_wp2_with fail
    go_ret2
    rw [← HRQ.out]
    exact StR.err (HB3.out.mono HH.out.base) rfl
end
end Go.Proofs.YtjpbbooeihdnfaaDoor
