/- The law's 'played': the disk behind all the steps. -/
import Derived.Test.YtdldjpgbifcljaaLight
import Derived.StillTailTactics
namespace Go.Proofs.Ytdldjpgbifcljaa
open Go.RowKit

set_option maxHeartbeats 1600000 in
theorem played_any (p : Option Addr) (n c : Nat) (f : Nat → Opv) (w : World) (hn : n ≤ 1099511627776) (hO : Ops w p n f) :
    Calls Try.prog 15 #[.slice p n c] w fun e w' => ∃ g F, e = .returned (.pointer (some ⟨g, 0, none⟩)) ∧ Dk w' g F (runM (newM 4) f n) ∧ (∀ k ∈ F, w.heap.size ≤ k) ∧ Below w.heap.size w w' := by
  have HO := Lib.hid hO
  clear hO
  go_enter Try.func15, Try.ntmps15
  go_wp2_with fail
  refine (new_any 4 w (by decide) (by decide)).mono ?_
  rintro e w1 ⟨g, F, rfl, hD, hF, hb⟩
  have HD := Lib.hid hD
  have HF := Lib.hid hF
  have HB := Lib.hid hb
  clear hD hF hb
  go_wp2_with fail
  refine (rnew_any 4 w1 (by decide)).mono ?_
  rintro e w2 ⟨⟨x, rfl, hR⟩, hb⟩
  obtain ⟨q1, c1, q2, c2, rfl⟩ := hR.form
  have HP0 : Hid (PW w (w2.alloc (.cells #[.slice q1 (newM 4).out.length c1, .slice q2 (newM 4).row.length c2, .int .i64 (newM 4).fuse, .bool (newM 4).down, .int .i64 ((newM 4).done : Int)] 33)) g w2.heap.size (newM 4)) := Lib.hid ⟨⟨F, (HD.out.below hb).below ((Below.refl _ _).alloc (Nat.le_refl _) _), HF.out⟩, ⟨q1, c1, q2, c2, ⟨heap_alloc_new w2 _⟩, hR.below ((Below.refl _ _).alloc (Nat.le_refl _) _)⟩, (HB.out.trans (hb.mono HB.out.size)).alloc (Nat.le_trans HB.out.size hb.size) _, Nat.le_trans HB.out.size hb.size⟩
  go_upto_region 5 with fail
  generalize (w2.alloc (.cells #[.slice q1 (newM 4).out.length c1, .slice q2 (newM 4).row.length c2, .int .i64 (newM 4).fuse, .bool (newM 4).down, .int .i64 ((newM 4).done : Int)] 33)) = w3 at *
  clear HD HF HB hR hb
  generalize w2.heap.size = b at *
  go_wp2_with fail
  go_loopw [6] (fun iv wq => ∃ i : Nat, i ≤ n ∧ iv = .int .i64 (i : Int) ∧ Hid (PW w wq g b (runM (newM 4) f i))) (fun iv _ => n - (intOf iv).toNat)
  case atStart => exact ⟨0, by omega, by go_num, HP0⟩
  case round =>
    obtain ⟨i, hi, rfl, hr⟩ := hrel
    by_cases hlt : i < n
    · obtain ⟨b2, o2, rfl, hc⟩ := HO.out (by omega)
      obtain ⟨⟨Fx, hDx, hFx⟩, ⟨q3, c3, q4, c4, hX, hR⟩, hbel, hhigh⟩ := hr.out
      have hop := (hc i hlt).below hbel
      have a0 := hop.c0
      have a1 := hop.c1
      have a2 := hop.c2
      have a3 := hop.c3
      have a4 := hop.c4
      have a5 := hop.c5
      have a6 := hop.c6
      have x0 := hX.c0
      have x1 := hX.c1
      have x2 := hX.c2
      have x3 := hX.c3
      have x4 := hX.c4
      have hnr := runM_near 4 f i
      have HMM : Hid ((runM (newM 4) f i).done ≤ 4611686018427387904 ∧ (runM (newM 4) f i).row.length ≤ 1099511627776 ∧ (runM (newM 4) f i).out.length ≤ 1099511627776) := Lib.hid ⟨Nat.le_trans hnr.done (by omega), Nat.le_trans hnr.row (by omega), by rw [hnr.out]; decide⟩
      have HOB := Lib.hid hop.ok
      have HKP := Lib.hid hop.kp
      have HOFF : Hid (0 < (f i).nk → Off Fx (f i).p) := Lib.hid ((hc i hlt).kp.off hFx)
      have HM : Hid (runM (newM 4) f (i + 1) = opM (runM (newM 4) f i) (f i)) := Lib.hid rfl
      have HDX := Lib.hid hDx
      have HFX := Lib.hid hFx
      have HRX := Lib.hid hR
      have HXX := Lib.hid hX
      have HBEL := Lib.hid hbel
      have HHI := Lib.hid hhigh
      clear hr hc hop hnr hDx hFx hR hX hbel hhigh
      have bi : (0 : Int) ≤ (i : Int) := by omega
      have bi2 : (i : Int) < (n : Int) := by omega
      go_wp2_with fail
      go_region_with (first
        | (go_at_call 13; refine (step_any (f i) (by first | exact HDX.out | exact HDX.out.below (Below.refl _ _).drew) (by first | exact HRX.out | exact HRX.out.below (Below.refl _ _).drew) HOB.out (by first | exact HKP.out | exact HKP.out.below (Below.refl _ _).drew) HOFF.out HMM.out).mono ?_; rintro e wv ⟨y, F', rfl, hD, hR, hc⟩; obtain ⟨q5, c5, q6, c6, rfl, hX, hP⟩ := PW.next (w := w) (b := b) HFX.out (by first | exact HDX.out.typed | exact (HDX.out.below (Below.refl _ _).drew).typed) (by first | exact HBEL.out | exact HBEL.out.drew) HHI.out (by first | exact HXX.out | exact HXX.out.below (Below.refl _ _).drew) hD hR hc; have HP : Hid (PW w _ g b (runM (newM 4) f (i + 1))) := Lib.hid (by rw [HM.out]; exact hP); have x0 := hX.c0; have x1 := hX.c1; have x2 := hX.c2; have x3 := hX.c3; have x4 := hX.c4; have xf := hX.fz; clear hD hR hc hX hP))
      all_goals
        go_wp2_with fail
        go_roundw
      all_goals first
        | (case rel => exact ⟨i + 1, by omega, by go_num, HP⟩)
        | (case measure => simp [intOf]; omega)
    · obtain rfl : i = n := by omega
      go_wp2_with fail
      go_ret
      obtain ⟨⟨Fx, hDx, hFx⟩, _, hbel, _⟩ := hr.out
      exact ⟨g, Fx, rfl, hDx, hFx, hbel⟩
end Go.Proofs.Ytdldjpgbifcljaa
