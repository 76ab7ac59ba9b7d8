/- What DiskNils returns: true. -/
import Derived.Test.YtdldjpgbifcljaaNils0
import Derived.Deep.CutBlock
import Derived.Deep.DeepCutAuto
namespace Go.Proofs.Ytdldjpgbifcljaa
open Go.RowKit

set_option maxRecDepth 100000 in
set_option maxHeartbeats 3200000 in
theorem nils_short (a0 : Option Addr) (n0 c0 : Nat) (f0 : Nat → Opv) (a1 : Option Addr) (n1 c1 : Nat) (f1 : Nat → Opv) (o : Opv) (W : World) (hO0 : Ops W a0 n0 f0) (hO1 : Ops W a1 n1 f1) (h0 : Light n0 f0) (h1 : Light n1 f1) (hk : o.nk ≤ 100) (hB : OpB o) :
    Calls Try.prog 7 #[.slice a0 n0 c0, .slice a1 n1 c1, o.val] W fun e w' => e = .returned (.bool true) ∧ Below W.heap.size W w' := by
  have HO0 := Lib.hid hO0
  have HO1 := Lib.hid hO1
  have HL0 := Lib.hid h0
  have HL1 := Lib.hid h1
  have hn0 := h0.1
  have hn1 := h1.1
  clear hO0 hO1 h0 h1
  obtain ⟨kind, at_, num, torn, long, y, p, nk, ck, keep⟩ := o
  change Calls _ _ #[_, _, .agg #[.int .i64 kind, .int .i64 at_, .int .i64 num, .int .i64 torn, .int .i64 long, .int .u8 (y : Int), .slice p nk ck]] _ _
  simp only at hk
  have HOP := Lib.hid hB
  clear hB
  have hk2 : decide ((100 : Int) < (nk : Int)) = false := decide_eq_false (by omega)
  have HB0 : Hid (Below W.heap.size W (W.alloc (.cells #[.int .i64 kind, .int .i64 at_, .int .i64 num, .int .i64 torn, .int .i64 long, .int .u8 (y : Int), .slice p nk ck] 39))) := Lib.hid ((Below.refl _ _).alloc (Nat.le_refl _) _)
  have HX0 : Hid (BoxO (W.alloc (.cells #[.int .i64 kind, .int .i64 at_, .int .i64 num, .int .i64 torn, .int .i64 long, .int .u8 (y : Int), .slice p nk ck] 39)) W.heap.size ⟨kind, at_, num, torn, long, y, p, nk, ck, keep⟩) := Lib.hid ⟨heap_alloc_new W _⟩
  go_enter Try.func7, Try.ntmps7
  go_upto_region 1 with fail
  generalize W.alloc (.cells #[.int .i64 kind, .int .i64 at_, .int .i64 num, .int .i64 torn, .int .i64 long, .int .u8 (y : Int), .slice p nk ck] 39) = w1 at *
  have k1 := HX0.out.c1
  have k2 := HX0.out.c2
  have k3 := HX0.out.c3
  have k6 := HX0.out.c6
  simp only at k1 k2 k3 k6
  go_wp2_with fail
  refine (light_yes a0 n0 c0 f0 _ (nops_below HO0.out HB0.out) HL0.out).mono ?_
  rintro e w2 ⟨rfl, rfl⟩
  go_wp2_with fail
  refine (light_yes a1 n1 c1 f1 _ (nops_below HO1.out HB0.out) HL1.out).mono ?_
  rintro e w2 ⟨rfl, rfl⟩
  go_wp2_with fail
  refine (read_nil at_ w1).mono ?_
  rintro e w2 ⟨rfl, rfl⟩
  go_wp2_with fail
  refine (fuse_nil num w1).mono ?_
  rintro e w2 ⟨rfl, rfl⟩
  go_wp2_with fail
  refine (fail_nil p nk ck torn num w1).mono ?_
  rintro e w2 ⟨rfl, rfl⟩
  go_wp2_with fail
  refine (start_nil w1).mono ?_
  rintro e w2 ⟨rfl, rfl⟩
  clear k1 k2 k3 k6
  have l0 : ∀ s : In w1, s.1.cell? ⟨W.heap.size, 0, none⟩ = some (.int .i64 kind) := fun s => (HX0.out.below s.2).c0
  have l1 : ∀ s : In w1, s.1.cell? ⟨W.heap.size, 1, none⟩ = some (.int .i64 at_) := fun s => (HX0.out.below s.2).c1
  have l2 : ∀ s : In w1, s.1.cell? ⟨W.heap.size, 2, none⟩ = some (.int .i64 num) := fun s => (HX0.out.below s.2).c2
  have l3 : ∀ s : In w1, s.1.cell? ⟨W.heap.size, 3, none⟩ = some (.int .i64 torn) := fun s => (HX0.out.below s.2).c3
  have l4 : ∀ s : In w1, s.1.cell? ⟨W.heap.size, 4, none⟩ = some (.int .i64 long) := fun s => (HX0.out.below s.2).c4
  have l5 : ∀ s : In w1, s.1.cell? ⟨W.heap.size, 5, none⟩ = some (.int .u8 (y : Int)) := fun s => (HX0.out.below s.2).c5
  have l6 : ∀ s : In w1, s.1.cell? ⟨W.heap.size, 6, none⟩ = some (.slice p nk ck) := fun s => (HX0.out.below s.2).c6
  obtain ⟨S, HS⟩ : ∃ S, Hid (strB (fillS ⟨kind, at_, num, torn, long, y, p, nk, ck, keep⟩) = S) := ⟨_, Lib.hid rfl⟩
  have K20 : Hid (∀ W, Calls Try.prog 20 #[.agg #[.int .i64 kind, .int .i64 at_, .int .i64 num, .int .i64 torn, .int .i64 long, .int .u8 (y : Int), .slice p nk ck]] W fun e w' => e = .returned (.string S) ∧ Below W.heap.size W w') := Lib.hid fun W => by rw [← HS.out]; exact filled_any _ W HOP.out
  have hne := In.some w1
  go_upto_region 8 with fail
  refine region_in w1 (by kernel_rfl) (by kernel_rfl) (Below.refl _ _) ?_
  repeat (go_big_quiet_step ((first
    | (go_at_call 20; exact Calls.quiet_in (K20.out _))
    | (go_at_call 19; exact Calls.quiet_in_same (put_nil _ _ _))
    | (go_at_call 17; exact Calls.quiet_in_same (barrier_nil _))
    | (go_at_call 18; exact Calls.quiet_in_same (down_nil _))
    | (go_at_call 11; exact Calls.quiet_in_same (sectors_nil _))
    | (go_at_call 23; exact Calls.quiet_in_same (waiting_nil _))
    | (go_at_call 27; exact Calls.quiet_in_same (done_nil _))
    | (go_at_call 25; exact Calls.quiet_in_same (out_nil _ _))
    | (go_at_call 24; exact Calls.quiet_in_same (clone_nil _)))))
  refine wpQuiet_nil ?_
  intro w2 hw'
  have hb2 : Below w1.heap.size w1 w2 := by
    obtain ⟨⟨wz, hbz⟩, hw''⟩ := hw'
    subst hw''
    exact hbz
  clear hw'
  go_wp2_with fail
  have HB2 := Lib.hid (HB0.out.trans (Below.mono hb2 HB0.out.size))
  clear l0 l1 l2 l3 l4 l5 l6 hne K20 HS HOP HX0 HB0 hb2
  refine (played_any a0 n0 c0 f0 w2 (by omega) (nops_below HO0.out HB2.out)).mono ?_
  rintro e w3 ⟨g, F, rfl, hD, hF, hb⟩
  have HB3 := Lib.hid (HB2.out.trans (Below.mono hb HB2.out.size))
  have HD := Lib.hid hD
  have HN := Lib.hid (runM_near 4 f0 n0)
  clear hD hF hb
  generalize hm0 : runM (newM 4) f0 n0 = m0 at *
  go_wp2_with fail
  refine (HD.out.clone (by rw [HN.out.out]; decide) (by rw [HN.out.out]; decide) (by have := HN.out.row; omega)).mono ?_
  rintro e w4 ⟨g2, F2, rfl, hD2, hF2, hb4⟩
  go_wp2_with fail
  refine (rnew_any 4 w4 (by decide)).mono ?_
  rintro e w5 ⟨⟨x, rfl, hR⟩, hb5⟩
  obtain ⟨q1, c1, q2, c2, rfl⟩ := hR.form
  have HP0 : Hid (PX w3 (w5.alloc (.cells #[.slice q1 (newM 4).out.length c1, .slice q2 (newM 4).row.length c2, .int .i64 (newM 4).fuse, .bool (newM 4).down, .int .i64 ((newM 4).done : Int)] 33)) g2 w5.heap.size (runM m0 f1 0) (runM (newM 4) f1 0)) := Lib.hid ⟨⟨F2, (hD2.below hb5).below ((Below.refl _ _).alloc (Nat.le_refl _) _), hF2⟩, ⟨q1, c1, q2, c2, ⟨heap_alloc_new w5 _⟩, hR.below ((Below.refl _ _).alloc (Nat.le_refl _) _)⟩, (hb4.trans (hb5.mono hb4.size)).alloc (Nat.le_trans hb4.size hb5.size) _, Nat.le_trans hb4.size hb5.size⟩
  go_upto_region 15 with fail
  generalize (w5.alloc (.cells #[.slice q1 (newM 4).out.length c1, .slice q2 (newM 4).row.length c2, .int .i64 (newM 4).fuse, .bool (newM 4).down, .int .i64 ((newM 4).done : Int)] 33)) = w6 at *
  clear hD2 hF2 hb4 hR hb5
  generalize w5.heap.size = b at *
  go_wp2_with fail
  go_loopw [13] (fun iv wq => ∃ i : Nat, i ≤ n1 ∧ iv = .int .i64 (i : Int) ∧ Hid (PX w3 wq g2 b (runM m0 f1 i) (runM (newM 4) f1 i))) (fun iv _ => n1 - (intOf iv).toNat)
  case atStart => exact ⟨0, by omega, by go_num, HP0⟩
  case round =>
    clear HP0
    obtain ⟨i, hi, rfl, hr⟩ := hrel
    by_cases hlt : i < n1
    · have hO3 := nops_below HO1.out HB3.out
      obtain ⟨b2, o2, rfl, hc⟩ := hO3 (by omega)
      obtain ⟨⟨Fx, hDx, hFx⟩, ⟨q3, c3, q4, c4, hX, hR⟩, hbel, hhigh⟩ := hr.out
      have hop := (hc i hlt).below hbel
      have a0 := hop.c0
      have a1 := hop.c1
      have a2 := hop.c2
      have a3 := hop.c3
      have a4 := hop.c4
      have a5 := hop.c5
      have a6 := hop.c6
      have x0 := hX.c0
      have x1 := hX.c1
      have x2 := hX.c2
      have x3 := hX.c3
      have x4 := hX.c4
      have hnr := runM_near 4 f1 i
      have hnd := runM_more m0 4 n0 HN.out f1 i
      have HMM : Hid ((runM (newM 4) f1 i).done ≤ 4611686018427387904 ∧ (runM (newM 4) f1 i).row.length ≤ 1099511627776 ∧ (runM (newM 4) f1 i).out.length ≤ 1099511627776) := Lib.hid ⟨Nat.le_trans hnr.done (by omega), Nat.le_trans hnr.row (by omega), by rw [hnr.out]; decide⟩
      have HMD : Hid ((runM m0 f1 i).done ≤ 4611686018427387904 ∧ (runM m0 f1 i).row.length ≤ 1099511627776 ∧ (runM m0 f1 i).out.length ≤ 1099511627776) := Lib.hid ⟨Nat.le_trans hnd.done (by omega), Nat.le_trans hnd.row (by omega), by rw [hnd.out]; decide⟩
      have HOB := Lib.hid hop.ok
      have HKP := Lib.hid hop.kp
      have HOFF : Hid (0 < (f1 i).nk → Off Fx (f1 i).p) := Lib.hid ((hc i hlt).kp.off hFx)
      have HM : Hid (runM (newM 4) f1 (i + 1) = opM (runM (newM 4) f1 i) (f1 i) ∧ runM m0 f1 (i + 1) = opM (runM m0 f1 i) (f1 i)) := Lib.hid ⟨rfl, rfl⟩
      have HDX := Lib.hid hDx
      have HFX := Lib.hid hFx
      have HRX := Lib.hid hR
      have HXX := Lib.hid hX
      have HBEL := Lib.hid hbel
      have HHI := Lib.hid hhigh
      clear hr hc hop hnr hnd hDx hFx hR hX hbel hhigh hO3
      have bi : (0 : Int) ≤ (i : Int) := by omega
      have bi2 : (i : Int) < (n1 : Int) := by omega
      go_wp2_with fail
      go_region_with (first
        | (go_at_call 13; refine (stepd_any (f1 i) (by first | exact HDX.out | exact HDX.out.below (Below.refl _ _).drew) (by first | exact HRX.out | exact HRX.out.below (Below.refl _ _).drew) HOB.out (by first | exact HKP.out | exact HKP.out.below (Below.refl _ _).drew) HOFF.out HMM.out HMD.out).mono ?_; rintro e wv ⟨y, F', bq, rfl, hD, hR, hc⟩; obtain ⟨q5, c5, q6, c6, rfl, hX, hP⟩ := PX.next (w := w3) (b := b) HFX.out (by first | exact HDX.out.typed | exact (HDX.out.below (Below.refl _ _).drew).typed) (by first | exact HBEL.out | exact HBEL.out.drew) HHI.out (by first | exact HXX.out | exact HXX.out.below (Below.refl _ _).drew) hD hR hc; have HP : Hid (PX w3 _ g2 b (runM m0 f1 (i + 1)) (runM (newM 4) f1 (i + 1))) := Lib.hid (by rw [HM.out.1, HM.out.2]; exact hP); have x0 := hX.c0; have x1 := hX.c1; have x2 := hX.c2; have x3 := hX.c3; have x4 := hX.c4; have xf := hX.fz; clear hD hR hc hX hP))
      all_goals
        go_wp2_with fail
        go_roundw
      all_goals first
        | (case rel => exact ⟨i + 1, by omega, by go_num, HP⟩)
        | (case measure => simp [intOf]; omega)
    · obtain rfl : i = n1 := by omega
      have HB6 := Lib.hid hr.out.below
      clear hr
      go_wp2_with fail
      have HBW := Lib.hid (HB3.out.trans (HB6.out.mono HB3.out.size))
      refine (played_any a0 n0 c0 f0 wr (by omega) (nops_below HO0.out HBW.out)).mono ?_
      rintro e w8 ⟨g3, F3, rfl, hD3, _, hb8⟩
      rw [hm0] at hD3
      have HB8 := Lib.hid (HBW.out.trans (Below.mono hb8 HBW.out.size))
      have HDa := Lib.hid ((HD.out.below HB6.out).below hb8)
      have HDb := Lib.hid hD3
      have hrow : m0.row.length ≤ 1099511627776 := by have := HN.out.row; omega
      clear hD3 hb8 HD HB6 HB3 HBW
      go_wp2_with fail
      go_loop [15] (fun iv => ∃ i : Nat, i ≤ 4 ∧ iv = .int .i64 (i : Int)) (fun iv => 4 - (intOf iv).toNat)
      case atStart => exact ⟨0, by omega, by go_num⟩
      case round =>
        obtain ⟨j, hj, rfl⟩ := hrel
        by_cases hlt4 : j < 4
        · have HA := Lib.hid (HDa.out.out_ (j : Int))
          have HC := Lib.hid (HDb.out.out_ (j : Int))
          generalize strB (outS m0 (j : Int)) = S at *
          have hSS : (S.toList == S.toList) = true := by simp
          go_wp2_with fail
          refine HA.out.mono ?_
          rintro e w9 ⟨rfl, rfl⟩
          go_wp2_with fail
          refine HC.out.mono ?_
          rintro e w9 ⟨rfl, rfl⟩
          go_wp2_with fail
          go_round
          case rel => exact ⟨j + 1, by omega, by go_num⟩
          case measure => simp [intOf]; omega
        · obtain rfl : j = 4 := by omega
          have hdd : (m0.down == m0.down) = true := by cases m0.down <;> rfl
          go_wp2_with fail
          refine HDa.out.down.mono ?_
          rintro e w9 ⟨rfl, rfl⟩
          go_wp2_with fail
          refine HDb.out.down.mono ?_
          rintro e w9 ⟨rfl, rfl⟩
          go_wp2_with fail
          refine (HDa.out.waiting hrow).mono ?_
          rintro e w9 ⟨⟨q7, c7, rfl, _⟩, hb9⟩
          have HDa9 := Lib.hid (HDa.out.below hb9)
          have HDb9 := Lib.hid (HDb.out.below hb9)
          have HB9 := Lib.hid (HB8.out.trans (Below.mono hb9 HB8.out.size))
          clear hb9
          go_wp2_with fail
          refine (HDb9.out.waiting hrow).mono ?_
          rintro e w10 ⟨⟨q8, c8, rfl, _⟩, hb10⟩
          have HDa10 := Lib.hid (HDa9.out.below hb10)
          have HDb10 := Lib.hid (HDb9.out.below hb10)
          have HB10 := Lib.hid (HB9.out.trans (Below.mono hb10 HB9.out.size))
          clear hb10
          go_wp2_with fail
          refine HDa10.out.done.mono ?_
          rintro e w11 ⟨rfl, rfl⟩
          go_wp2_with fail
          refine HDb10.out.done.mono ?_
          rintro e w11 ⟨rfl, rfl⟩
          go_wp2_with fail
          refine (lives_any _).mono ?_
          rintro e w11 ⟨rfl, hb⟩
          have HB11 := Lib.hid (HB10.out.trans (Below.mono hb HB10.out.size))
          clear hb
          go_wp2_with fail
          go_ret
          exact ⟨rfl, HB11.out⟩
theorem nils_walk (a0 : Option Addr) (n0 c0 : Nat) (f0 : Nat → Opv) (a1 : Option Addr) (n1 c1 : Nat) (f1 : Nat → Opv) (o : Opv) (W : World) (hn0 : n0 ≤ 9223372036854775807) (hO0 : Ops W a0 n0 f0) (hn1 : n1 ≤ 9223372036854775807) (hO1 : Ops W a1 n1 f1) (hB : OpB o) (_hK : Kp W o.p o.nk o.keep) :
    Calls Try.prog 7 #[.slice a0 n0 c0, .slice a1 n1 c1, o.val] W fun e w' => e = .returned (.bool true) ∧ Below W.heap.size W w' := by
  by_cases h : Light n0 f0 ∧ Light n1 f1 ∧ o.nk ≤ 100
  · exact nils_short a0 n0 c0 f0 a1 n1 c1 f1 o W hO0 hO1 h.1 h.2.1 h.2.2 hB
  · exact nils_heavy a0 n0 c0 f0 a1 n1 c1 f1 o W hn0 hO0 hn1 hO1 h
end Go.Proofs.Ytdldjpgbifcljaa
