/- The law of Room: the walk. -/
import Derived.Test.YtldkmkgkllgckaaMade
import Derived.Test.YtldkmkgkllgckaaRRoom
set_option linter.unusedSimpArgs false
namespace Go.Proofs.Ytldkmkgkllgckaa
open Go.RowKit

theorem recS_of (k i long : Int) (y : Nat) (h0 : 0 ≤ long) (h1 : long ≤ 600) : ((recS ⟨k, i, long, y⟩).size : Int) = long := by
  rw [recS_size]; unfold recLen; simp only; omega
theorem opB_of (x : Int) (y : Nat) (h0 : -1 ≤ x) (h1 : x ≤ 600) (hy : y < 256) : OpB ⟨0, 0, x, y⟩ :=
  ⟨by show i64B 0; unfold i64B; omega, by show i64B 0; unfold i64B; omega, by show i64B x; unfold i64B; omega, hy⟩
set_option maxRecDepth 20000 in
set_option maxHeartbeats 1600000 in
theorem room_walk (a : Option Addr) (n c : Nat) (f : Nat → Opv) (W : World) (hn : n ≤ 9223372036854775807) (hO : Ops W a n f) :
    Calls Try.prog 4 #[.slice a n c] W fun e W' => e = .returned (.bool true) ∧ Below W.heap.size W W' := by
  have HM0 := Lib.hid (made_any a n c f W hn hO)
  have HLV := Lib.hid lives_any
  clear hO
  obtain ⟨l, HL⟩ : ∃ l, Hid (runM f (min n 80) = l) := ⟨_, Lib.hid rfl⟩
  have HOK : Hid (Okp l) := Lib.hid (by rw [← HL.out]; exact runM_ok f _)
  rw [HL.out] at HM0
  have hge := room_ge l
  have hle := roomM_le l
  have HFU : Hid (∀ r : ByteArray, (r.size : Int) = room l + 1 → r.size ≤ 480 → addE l r = 8 ∧ addL l r = l) := Lib.hid (fun r hr h4 => by
    have hf : addFull l r = true := by rw [room_full HOK.out.len r h4]; exact decide_eq_true (by omega)
    unfold addE addL
    rw [if_neg (by omega), if_pos hf, if_neg (by omega), if_pos hf]
    exact ⟨rfl, rfl⟩)
  have HOKK : Hid (∀ r : ByteArray, (r.size : Int) = room l → addE l r = 0) := Lib.hid (fun r hr => by
    have hf : addFull l r = false := by rw [room_full HOK.out.len r (by omega)]; exact decide_eq_false (by omega)
    unfold addE
    rw [if_neg (by omega), hf]; rfl)
  have HRM : Hid (∀ w1 g v, Pg0 w1 g v l → Calls Try.prog 10 #[.pointer (some ⟨g, 0, none⟩)] w1 fun e w' => e = .returned (.int .i64 (room l)) ∧ Below w1.heap.size w1 w') := Lib.hid (fun w1 g v h => room_any h)
  have HRR : Hid (∀ w1 v, Rf w1 v l → Calls Try.prog 11 #[v] w1 fun e w' => e = .returned (.int .i64 (room l)) ∧ Below w1.heap.size w1 w') := Lib.hid (fun w1 v h => rroom_any h HOK.out)
  generalize room l = x at *
  go_enter Try.func4, Try.ntmps4
  go_wp2_with fail
  refine HM0.out.mono ?_
  rintro e w1 ⟨g, xv, rfl, ⟨F, ⟨v, hP, rfl⟩, hF⟩, hR, hB⟩
  have HP := Lib.hid hP
  have HF := Lib.hid hF
  have HB := Lib.hid hB
  have HR := Lib.hid hR
  clear hP hF hB hR
  go_wp2_with fail
  refine (HRM.out _ _ _ HP.out).mono ?_
  rintro e w2 ⟨rfl, hb⟩
  have HP2 := Lib.hid (HP.out.below hb)
  have HB2 := Lib.hid (HB.out.trans (hb.mono HB.out.size))
  have HR2 := Lib.hid (HR.out.below hb)
  clear hb HP HB HR
  go_wp2_with fail
  refine (HRR.out _ _ HR2.out).mono ?_
  rintro e w3 ⟨rfl, hb⟩
  have HP3 := Lib.hid (HP2.out.below hb)
  have HB3 := Lib.hid (HB2.out.trans (hb.mono HB2.out.size))
  clear hb HP2 HB2 HR2
  have e1 : (x != x) = false := by simp
  by_cases h480 : x < 480
  · have d1 : decide (x < 480) = true := decide_eq_true h480
    go_wp2_with fail
    refine (rec_any ⟨0, 0, x + 1, 0⟩ w3 (opB_of _ _ (by omega) (by omega) (by decide))).mono ?_
    rintro e w4 ⟨rfl, hb⟩
    have HP4 := Lib.hid (HP3.out.below hb)
    have HB4 := Lib.hid (HB3.out.trans (hb.mono HB3.out.size))
    obtain ⟨r, HRS⟩ : ∃ r, Hid (recS ⟨0, 0, x + 1, 0⟩ = r) := ⟨_, Lib.hid rfl⟩
    have HRZ : Hid ((r.size : Int) = x + 1) := Lib.hid (by rw [← HRS.out]; exact recS_of _ _ _ _ (by omega) (by omega))
    rw [HRS.out]
    obtain ⟨hA1, hA2⟩ := HFU.out r HRZ.out (by have := HRZ.out; omega)
    have HA := Lib.hid (add_any HP4.out r (by have := HRZ.out; omega))
    rw [hA1, hA2] at HA
    clear hb HP3 HB3 hA1 hA2
    go_wp2_with fail
    refine HA.out.mono ?_
    rintro e w5 ⟨rfl, F5, ⟨v5, hP5, hF5⟩, hc⟩
    have HP5 := Lib.hid hP5
    have HB5 : Hid (Below W.heap.size W w5) := Lib.hid (hc.below HB4.out HB4.out.size HF.out)
    have HF5 : Hid (∀ k ∈ foot g v5, W.heap.size ≤ k) := Lib.hid (by rw [← hF5]; exact hc.high HB4.out.size HF.out)
    clear hP5 hF5 hc HA HB4 HP4
    by_cases h0 : x < 0
    · have d2 : decide (x < 0) = true := decide_eq_true h0
      go_wp2_with (go_at_call 9; refine (HLV.out _).mono ?_; rintro e w8 ⟨rfl, hb⟩)
      go_ret
      exact ⟨rfl, HB5.out.trans (hb.mono HB5.out.size)⟩
    · have d2 : decide (x < 0) = false := decide_eq_false h0
      go_wp2_with fail
      refine (rec_any ⟨0, 0, x, 1⟩ w5 (opB_of _ _ (by omega) (by omega) (by decide))).mono ?_
      rintro e w6 ⟨rfl, hb⟩
      have HP6 := Lib.hid (HP5.out.below hb)
      have HB6 := Lib.hid (HB5.out.trans (hb.mono HB5.out.size))
      obtain ⟨r6, HRS6⟩ : ∃ r6, Hid (recS ⟨0, 0, x, 1⟩ = r6) := ⟨_, Lib.hid rfl⟩
      have HRZ6 : Hid ((r6.size : Int) = x) := Lib.hid (by rw [← HRS6.out]; exact recS_of _ _ _ _ (by omega) (by omega))
      rw [HRS6.out]
      have hA6 := HOKK.out r6 HRZ6.out
      have HA6 := Lib.hid (add_any HP6.out r6 (by have := HRZ6.out; omega))
      rw [hA6] at HA6
      clear hb hA6
      go_wp2_with fail
      refine HA6.out.mono ?_
      rintro e w7 ⟨rfl, F7, _, hc⟩
      have HB7 : Hid (Below W.heap.size W w7) := Lib.hid (hc.below HB6.out HB6.out.size HF5.out)
      clear hc HA6 HB6 HP6
      go_wp2_with (go_at_call 9; refine (HLV.out _).mono ?_; rintro e w8 ⟨rfl, hb⟩)
      go_ret
      exact ⟨rfl, HB7.out.trans (hb.mono HB7.out.size)⟩
  · have d1 : decide (x < 480) = false := decide_eq_false h480
    have d2 : decide (x < 0) = false := decide_eq_false (by omega)
    go_wp2_with fail
    refine (rec_any ⟨0, 0, x, 1⟩ w3 (opB_of _ _ (by omega) (by omega) (by decide))).mono ?_
    rintro e w6 ⟨rfl, hb⟩
    have HP6 := Lib.hid (HP3.out.below hb)
    have HB6 := Lib.hid (HB3.out.trans (hb.mono HB3.out.size))
    obtain ⟨r6, HRS6⟩ : ∃ r6, Hid (recS ⟨0, 0, x, 1⟩ = r6) := ⟨_, Lib.hid rfl⟩
    have HRZ6 : Hid ((r6.size : Int) = x) := Lib.hid (by rw [← HRS6.out]; exact recS_of _ _ _ _ (by omega) (by omega))
    rw [HRS6.out]
    have hA6 := HOKK.out r6 HRZ6.out
    have HA6 := Lib.hid (add_any HP6.out r6 (by have := HRZ6.out; omega))
    rw [hA6] at HA6
    clear hb hA6
    go_wp2_with fail
    refine HA6.out.mono ?_
    rintro e w7 ⟨rfl, F7, _, hc⟩
    have HB7 : Hid (Below W.heap.size W w7) := Lib.hid (hc.below HB6.out HB6.out.size HF.out)
    clear hc HA6 HB6 HP6
    go_wp2_with (go_at_call 9; refine (HLV.out _).mono ?_; rintro e w8 ⟨rfl, hb⟩)
    go_ret
    exact ⟨rfl, HB7.out.trans (hb.mono HB7.out.size)⟩
end Go.Proofs.Ytldkmkgkllgckaa
