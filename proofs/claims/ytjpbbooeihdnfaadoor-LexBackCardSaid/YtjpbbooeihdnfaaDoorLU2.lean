/- A character's text. -/
import Derived.Test.YtjpbbooeihdnfaaDoorLU1
set_option maxRecDepth 20000
set_option linter.unusedSimpArgs false
set_option linter.unusedVariables false
namespace Go.Proofs.YtjpbbooeihdnfaaDoor
open Go.RowKit

theorem chr_named : ∀ k : Fin 9, chrT (nmN k.1) = (nms.getD k.1 ([], 0)).1 := by decide +kernel
theorem chr_other : ∀ n : Fin 128, (∀ k : Fin 9, nmN k.1 ≠ n.1) → chrT n.1 = if 33 ≤ n.1 ∧ n.1 ≤ 126 then [UInt8.ofNat n.1] else 120 :: two n.1 := by decide +kernel
theorem enc_one : ∀ n : Fin 128, Utf8.encode (wrap32 (n.1 : Int)) = ⟨([UInt8.ofNat n.1] : List UInt8).toArray⟩ := by decide +kernel
theorem cat_str (a b : List UInt8) : ((⟨a.toArray⟩ : ByteArray) ++ ⟨b.toArray⟩) = ⟨(a ++ b).toArray⟩ := by
  apply ByteArray.ext
  rw [ByteArray.data_append]
  simp
set_option maxHeartbeats 3200000 in
theorem chr_text (n : Nat) (w : World) (hE : Env w) (hn : n < 128) : Calls Tryd.prog 26 #[.int .i64 (n : Int)] w fun e w' => e = .returned (.string ⟨(chrT n).toArray⟩) ∧ Below w.heap.size w w' := by
  obtain ⟨q0, q1, q2, q3, q4, q5, q6, q7, q8, q9, q10, q11, q12, q13, q14, q15, q16, q17⟩ := hE.names
  have HSH := Lib.hid (shown_any n)
  have HTW : Hid (∀ w, Calls Tryd.prog 44 #[.int .i64 (n : Int)] w fun e w' => e = .returned (.string ⟨(two n).toArray⟩) ∧ Below w.heap.size w w') := Lib.hid fun w => two_any n w hn
  obtain ⟨RT, hRT⟩ : ∃ R, chrT n = R := ⟨_, rfl⟩
  rw [hRT]
  have HRT := Lib.hid hRT
  have HN := Lib.hid hn
  have HWR : Hid (IntKind.i32.wrap (n : Int) = (n : Int)) := Lib.hid (by unfold IntKind.wrap; simp [IntKind.bits, IntKind.signed]; omega)
  clear hRT hE hn
  go_enter Tryd.func26, Tryd.ntmps26
  go_wp2_with fail
  clear q0 q1 q2 q3 q4 q5 q6 q7 q8 q9 q10 q11 q12 q13 q14 q15 q16 q17
  go_loopw [6] (fun iv wr => ∃ k : Nat, iv = .int .i64 (k : Int) ∧ k ≤ 9 ∧ Hid ((∀ j, j < k → nmN j ≠ n) ∧ Below w.heap.size w wr)) (fun iv _ => 9 - (intOf iv).toNat)
  case atStart => exact ⟨0, rfl, by omega, Lib.hid ⟨fun j hj => absurd hj (Nat.not_lt_zero j), Below.refl _ _⟩⟩
  case round =>
    obtain ⟨k, rfl, hk, HK⟩ := hrel
    by_cases hlt : k < 9
    · have hna := nm_at k hlt
      unfold nmC at hna
      obtain ⟨A, hA⟩ : ∃ A, nmA k = A := ⟨_, rfl⟩
      obtain ⟨N, hN⟩ : ∃ N, nmN k = N := ⟨_, rfl⟩
      rw [hA, hN] at hna
      have HNN := Lib.hid hN
      have HAA := Lib.hid hA
      clear hA hN
      go_upto_region 4 with fail
      have hbw : Below wr.heap.size wr (wr.alloc (.cells #[.string A, .int .i64 (N : Int)] 73)) := alloc_below _ _
      have hx9 := heap_alloc_new wr (.cells #[.string A, .int .i64 (N : Int)] 73)
      generalize wr.alloc (.cells #[.string A, .int .i64 (N : Int)] 73) = W2 at *
      have d0 := cell_of_row _ _ 0 _ _ _ hx9
      have d1 := cell_of_row _ _ 1 _ _ _ hx9
      simp at d0 d1
      have HB2 : Hid (Below w.heap.size w W2) := Lib.hid (HK.out.2.trans (hbw.mono HK.out.2.size))
      clear hbw hx9
      by_cases hq : n = N
      · have hd : ((n : Int) == (N : Int)) = true := by rw [hq]; exact beq_self_eq_true _
        have hdn : (n == N) = true := by rw [hq]; exact beq_self_eq_true _
        have HV : Hid (A = ⟨RT.toArray⟩) := by
          have h := chr_named ⟨k, hlt⟩
          simp only at h
          rw [HNN.out, ← hq, HRT.out] at h
          rw [h]; exact Lib.hid HAA.out.symm
        clear hq hlt
        go_wp2_with fail
        go_ret
        exact ⟨by show Ending.returned (.string A) = _; rw [HV.out], HB2.out⟩
      · have hd : ((n : Int) == (N : Int)) = false := beq_false_of_ne (by omega)
        have hdn : (n == N) = false := beq_false_of_ne hq
        have HK2 : Hid (∀ j, j < k + 1 → nmN j ≠ n) := Lib.hid fun j hj => by
          by_cases e : j = k
          · rw [e, HNN.out]; exact fun e2 => hq e2.symm
          · exact HK.out.1 j (by omega)
        clear hq
        go_wp2_with fail
        go_roundw
        case rel => exact ⟨k + 1, by go_num, by omega, Lib.hid ⟨HK2.out, HB2.out⟩⟩
        case measure => simp [intOf]; omega
    · have hk9 : k = 9 := by omega
      subst hk9
      have hv := chr_other ⟨n, HN.out⟩ fun j => HK.out.1 j.1 j.2
      simp only at hv
      rw [HRT.out] at hv
      clear hlt hk
      by_cases hs : 33 ≤ n ∧ n ≤ 126
      · rw [if_pos hs] at hv
        rw [decide_eq_true hs] at HSH
        have HV := Lib.hid hv
        clear hv hs
        go_wp2_with (go_at_call 43; refine (HSH.out _).mono ?_; rintro e w' ⟨rfl, rfl⟩)
        go_ret
        exact ⟨by show Ending.returned (.string (Utf8.encode (wrap32 (n : Int)))) = _; rw [enc_one ⟨n, HN.out⟩, HV.out], HK.out.2⟩
      · rw [if_neg hs] at hv
        rw [decide_eq_false hs] at HSH
        have HV := Lib.hid hv
        clear hv hs
        go_wp2_with (first
          | (go_at_call 43; refine (HSH.out _).mono ?_; rintro e w' ⟨rfl, rfl⟩)
          | (go_at_call 44; refine (HTW.out _).mono ?_; rintro e w5 ⟨rfl, hb5⟩; have HB5 := Lib.hid hb5; clear hb5))
        go_ret
        exact ⟨by show Ending.returned (.string ((⟨([120] : List UInt8).toArray⟩ : ByteArray) ++ ⟨(two n).toArray⟩)) = _; rw [cat_str, HV.out]; rfl, HK.out.2.trans (HB5.out.mono HK.out.2.size)⟩
end Go.Proofs.YtjpbbooeihdnfaaDoor
