/- What DiskPlays returns: true. -/
import Derived.Test.YtdldjpgbifcljaaAlike
namespace Go.Proofs.Ytdldjpgbifcljaa
open Go.RowKit

theorem ops_below {w w' : World} {p : Option Addr} {n : Nat} {f : Nat → Opv} (h : Ops w p n f) (hb : Below w.heap.size w w') : Ops w' p n f := fun hn => by
  obtain ⟨b, o, e, hc⟩ := h hn
  exact ⟨b, o, e, fun r hr => (hc r hr).below hb⟩
theorem PW.le {w wr w' : World} {g b : Nat} {m : Dsk} (h : PW w wr g b m) (hb : Below wr.heap.size wr w') : PW w w' g b m := by
  obtain ⟨⟨F, h1, h2⟩, ⟨q1, c1, q2, c2, h3, h4⟩, h5, h6⟩ := h
  exact ⟨⟨F, h1.below hb, h2⟩, ⟨q1, c1, q2, c2, h3.below hb, h4.below hb⟩, h5.trans (hb.mono h5.size), h6⟩
set_option maxRecDepth 100000 in
set_option maxHeartbeats 1600000 in
theorem plays_bad (s : Int) (p : Option Addr) (n c : Nat) (w : World) (hs : s < 1 ∨ 2048 < s) :
    Calls Try.prog 3 #[.int .i64 s, .slice p n c] w fun e w' => e = .returned (.bool true) ∧ Below w.heap.size w w' := by
  have HS := Lib.hid hs
  clear hs
  by_cases hlo : s < 1
  · have t1 : decide (s < 1) = true := decide_eq_true hlo
    go_enter Try.func3, Try.ntmps3
    go_wp2_with fail
    refine (new_bad s _ HS.out).mono ?_
    rintro e w1 ⟨rfl, hb⟩
    subst hb
    go_wp2_with fail
    refine (lives_any _).mono ?_
    rintro e w2 ⟨rfl, hb⟩
    have HB2 := Lib.hid hb
    go_wp2_with fail
    go_ret
    exact ⟨rfl, HB2.out⟩
  · have t1 : decide (s < 1) = false := decide_eq_false hlo
    have t2 : decide (2048 < s) = true := decide_eq_true (HS.out.resolve_left hlo)
    go_enter Try.func3, Try.ntmps3
    go_wp2_with fail
    refine (new_bad s _ HS.out).mono ?_
    rintro e w1 ⟨rfl, hb⟩
    subst hb
    go_wp2_with fail
    refine (lives_any _).mono ?_
    rintro e w2 ⟨rfl, hb⟩
    have HB2 := Lib.hid hb
    go_wp2_with fail
    go_ret
    exact ⟨rfl, HB2.out⟩
set_option maxRecDepth 100000 in
set_option maxHeartbeats 1600000 in
theorem plays_big (no : Nat) (p : Option Addr) (n c : Nat) (f : Nat → Opv) (w : World) (h0 : 1 ≤ no) (h1 : no ≤ 2048) (hn : n ≤ 9223372036854775807) (hO : Ops w p n f) (hs : ¬ (no ≤ 12 ∧ Light n f)) :
    Calls Try.prog 3 #[.int .i64 (no : Int), .slice p n c] w fun e w' => e = .returned (.bool true) ∧ Below w.heap.size w w' := by
  have t1 : decide ((no : Int) < 1) = false := decide_eq_false (by omega)
  have t2 : decide (2048 < (no : Int)) = false := decide_eq_false (by omega)
  have HO := Lib.hid hO
  have HS := Lib.hid hs
  clear hO hs
  go_enter Try.func3, Try.ntmps3
  go_wp2_with fail
  refine (new_any no _ h0 h1).mono ?_
  rintro e w1 ⟨g, F, rfl, hD, hF, hb⟩
  have HD := Lib.hid hD
  have HB := Lib.hid hb
  clear hD hF hb
  by_cases h12 : no ≤ 12
  · have t3 : decide (12 < (no : Int)) = false := decide_eq_false (by omega)
    go_wp2_with fail
    refine (light_no p n c f _ hn (ops_below HO.out HB.out) (fun h => HS.out ⟨h12, h⟩)).mono ?_
    rintro e w2 ⟨rfl, rfl⟩
    go_wp2_with fail
    refine (HD.out.sectors no (Lib.hid List.length_replicate)).mono ?_
    rintro e w2 ⟨rfl, rfl⟩
    go_wp2_with fail
    refine (lives_any _).mono ?_
    rintro e w2 ⟨rfl, hb⟩
    have HB2 := Lib.hid (HB.out.trans (hb.mono HB.out.size))
    go_wp2_with fail
    go_ret
    exact ⟨rfl, HB2.out⟩
  · have t3 : decide (12 < (no : Int)) = true := decide_eq_true (by omega)
    go_wp2_with fail
    refine (HD.out.sectors no (Lib.hid List.length_replicate)).mono ?_
    rintro e w2 ⟨rfl, rfl⟩
    go_wp2_with fail
    refine (lives_any _).mono ?_
    rintro e w2 ⟨rfl, hb⟩
    have HB2 := Lib.hid (HB.out.trans (hb.mono HB.out.size))
    go_wp2_with fail
    go_ret
    exact ⟨rfl, HB2.out⟩
set_option maxRecDepth 100000 in
set_option maxHeartbeats 3200000 in
theorem plays_short (no : Nat) (p : Option Addr) (n c : Nat) (f : Nat → Opv) (w : World) (h0 : 1 ≤ no) (h12 : no ≤ 12) (hO : Ops w p n f) (hL : Light n f) :
    Calls Try.prog 3 #[.int .i64 (no : Int), .slice p n c] w fun e w' => e = .returned (.bool true) ∧ Below w.heap.size w w' := by
  have t1 : decide ((no : Int) < 1) = false := decide_eq_false (by omega)
  have t2 : decide (2048 < (no : Int)) = false := decide_eq_false (by omega)
  have t3 : decide (12 < (no : Int)) = false := decide_eq_false (by omega)
  have hn := hL.1
  have HO := Lib.hid hO
  have HL := Lib.hid hL
  clear hO hL
  go_enter Try.func3, Try.ntmps3
  go_wp2_with fail
  refine (new_any no _ h0 (by omega)).mono ?_
  rintro e w1 ⟨g, F, rfl, hD, hF, hb⟩
  have HD := Lib.hid hD
  have HF := Lib.hid hF
  have HB := Lib.hid hb
  clear hD hF hb
  go_wp2_with fail
  refine (light_yes p n c f _ (ops_below HO.out HB.out) HL.out).mono ?_
  rintro e w2 ⟨rfl, rfl⟩
  go_wp2_with fail
  refine (rnew_any no w1 (by omega)).mono ?_
  rintro e w2 ⟨⟨x, rfl, hR⟩, hb⟩
  obtain ⟨q1, c1, q2, c2, rfl⟩ := hR.form
  have HP0 : Hid (PW w (w2.alloc (.cells #[.slice q1 (newM no).out.length c1, .slice q2 (newM no).row.length c2, .int .i64 (newM no).fuse, .bool (newM no).down, .int .i64 ((newM no).done : Int)] 33)) g w2.heap.size (newM no)) := Lib.hid ⟨⟨F, (HD.out.below hb).below ((Below.refl _ _).alloc (Nat.le_refl _) _), HF.out⟩, ⟨q1, c1, q2, c2, ⟨heap_alloc_new w2 _⟩, hR.below ((Below.refl _ _).alloc (Nat.le_refl _) _)⟩, (HB.out.trans (hb.mono HB.out.size)).alloc (Nat.le_trans HB.out.size hb.size) _, Nat.le_trans HB.out.size hb.size⟩
  go_upto_region 9 with fail
  generalize (w2.alloc (.cells #[.slice q1 (newM no).out.length c1, .slice q2 (newM no).row.length c2, .int .i64 (newM no).fuse, .bool (newM no).down, .int .i64 ((newM no).done : Int)] 33)) = w3 at *
  clear HD HF HB hR hb
  generalize w2.heap.size = b at *
  go_wp2_with fail
  go_loopw [8] (fun iv wq => ∃ i : Nat, i ≤ n ∧ iv = .int .i64 (i : Int) ∧ Hid (PW w wq g b (runM (newM no) f i))) (fun iv _ => n - (intOf iv).toNat)
  case atStart => exact ⟨0, by omega, by go_num, HP0⟩
  case round =>
    obtain ⟨i, hi, rfl, hr⟩ := hrel
    by_cases hlt : i < n
    · obtain ⟨b2, o2, rfl, hc⟩ := HO.out (by omega)
      obtain ⟨⟨Fx, hDx, hFx⟩, ⟨q3, c3, q4, c4, hX, hR⟩, hbel, hhigh⟩ := hr.out
      have hop := (hc i hlt).below hbel
      have a0 := hop.c0
      have a1 := hop.c1
      have a2 := hop.c2
      have a3 := hop.c3
      have a4 := hop.c4
      have a5 := hop.c5
      have a6 := hop.c6
      have x0 := hX.c0
      have x1 := hX.c1
      have x2 := hX.c2
      have x3 := hX.c3
      have x4 := hX.c4
      have hnr := runM_near no f i
      have HMM : Hid ((runM (newM no) f i).done ≤ 4611686018427387904 ∧ (runM (newM no) f i).row.length ≤ 1099511627776 ∧ (runM (newM no) f i).out.length ≤ 1099511627776) := Lib.hid ⟨Nat.le_trans hnr.done (by omega), Nat.le_trans hnr.row (by omega), by rw [hnr.out]; omega⟩
      have HOB := Lib.hid hop.ok
      have HKP := Lib.hid hop.kp
      have HOFF : Hid (0 < (f i).nk → Off Fx (f i).p) := Lib.hid ((hc i hlt).kp.off hFx)
      have HM : Hid (runM (newM no) f (i + 1) = opM (runM (newM no) f i) (f i)) := Lib.hid rfl
      have HN2 := Lib.hid (runM_near no f (i + 1))
      have HDX := Lib.hid hDx
      have HFX := Lib.hid hFx
      have HRX := Lib.hid hR
      have HXX := Lib.hid hX
      have HBEL := Lib.hid hbel
      have HHI := Lib.hid hhigh
      clear hr hc hop hnr hDx hFx hR hX hbel hhigh
      have bi : (0 : Int) ≤ (i : Int) := by omega
      have bi2 : (i : Int) < (n : Int) := by omega
      go_wp2_with fail
      go_region_with (first
        | (go_at_call 13; refine (step_any (f i) (by first | exact HDX.out | exact HDX.out.below (Below.refl _ _).drew) (by first | exact HRX.out | exact HRX.out.below (Below.refl _ _).drew) HOB.out (by first | exact HKP.out | exact HKP.out.below (Below.refl _ _).drew) HOFF.out HMM.out).mono ?_; rintro e wv ⟨y, F', rfl, hD, hR, hc⟩; obtain ⟨q5, c5, q6, c6, rfl, hX, hP⟩ := PW.next (w := w) (b := b) HFX.out (by first | exact HDX.out.typed | exact (HDX.out.below (Below.refl _ _).drew).typed) (by first | exact HBEL.out | exact HBEL.out.drew) HHI.out (by first | exact HXX.out | exact HXX.out.below (Below.refl _ _).drew) hD hR hc; have HP : Hid (PW w _ g b (runM (newM no) f (i + 1))) := Lib.hid (by rw [HM.out]; exact hP); have x0 := hX.c0; have x1 := hX.c1; have x2 := hX.c2; have x3 := hX.c3; have x4 := hX.c4; have xf := hX.fz; clear hD hR hc hX hP))
      all_goals
        go_upto_region 14 with fail
        clear x0 x1 x2 x3 x4 xf
        generalize World.setCell _ _ _ = wz at *
        obtain ⟨⟨Fy, hDy, hFy⟩, ⟨q7, c7, q8, c8, hX2, hR2⟩, hbel2, hhi2⟩ := HP.out
        have HAL := Lib.hid (alike_any hDy hR2 (Nat.le_trans HN2.out.row (by omega)) (by rw [HN2.out.out]; omega))
        have x0 := hX2.c0
        have x1 := hX2.c1
        have x2 := hX2.c2
        have x3 := hX2.c3
        have x4 := hX2.c4
        clear hDy hFy hX2 hR2 hbel2 hhi2
        go_wp2_with fail
        refine HAL.out.mono ?_
        rintro e w7 ⟨rfl, hb⟩
        have HP7 := Lib.hid (HP.out.le hb)
        clear hb HAL HP
        go_wp2_with fail
        go_roundw
      all_goals first
        | (case rel => exact ⟨i + 1, by omega, by go_num, HP7⟩)
        | (case measure => simp [intOf]; omega)
    · obtain rfl : i = n := by omega
      have HB := Lib.hid hr.out.below
      clear hr
      go_wp2_with fail
      refine (lives_any _).mono ?_
      rintro e w6 ⟨rfl, hb⟩
      have HB2 := Lib.hid (HB.out.trans (hb.mono HB.out.size))
      go_wp2_with fail
      go_ret
      exact ⟨rfl, HB2.out⟩
theorem plays_walk (s : Int) (p : Option Addr) (n c : Nat) (f : Nat → Opv) (w : World) (_h0 : -9223372036854775808 ≤ s) (_h1 : s ≤ 9223372036854775807) (hn : n ≤ 9223372036854775807) (hO : Ops w p n f) :
    Calls Try.prog 3 #[.int .i64 s, .slice p n c] w fun e w' => e = .returned (.bool true) ∧ Below w.heap.size w w' := by
  by_cases hs : s < 1 ∨ 2048 < s
  · exact plays_bad s p n c w hs
  · obtain ⟨no, rfl⟩ : ∃ no : Nat, s = (no : Int) := ⟨s.toNat, by omega⟩
    by_cases hl : no ≤ 12 ∧ Light n f
    · exact plays_short no p n c f w (by omega) hl.1 hO hl.2
    · exact plays_big no p n c f w (by omega) (by omega) hn hO hl
end Go.Proofs.Ytdldjpgbifcljaa
