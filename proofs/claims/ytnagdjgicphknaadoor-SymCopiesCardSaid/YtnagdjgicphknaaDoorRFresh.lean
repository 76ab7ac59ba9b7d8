/- The new name, by the document. -/
import Derived.Test.YtnagdjgicphknaaDoorRNum
import Derived.Deep.Cut
import Derived.Deep.CutBlock
import Derived.Deep.DeepCutAuto
set_option linter.unusedSimpArgs false
set_option maxRecDepth 20000
namespace Go.Proofs.YtnagdjgicphknaaDoor
open Go.RowKit

def strLen : Value → Nat
  | .string S => S.size
  | _ => 0
theorem tail_str {n : Nat} (hn : n < 1000) : (⟨#[37]⟩ : ByteArray) ++ strB (digs n) = strB (tailM n) :=
  nums_inj (by rw [nums_append, nums_strB (digs_dig hn), nums_strB (fun x hx => by have := tailM_chr hn x hx; omega)]; rfl)
theorem atI_neg (L : List ByteArray) (S : ByteArray) : decide (atI L S < 0) = !decide (S ∈ L) := by
  unfold atI
  by_cases h : S ∈ L
  · rw [if_pos h, decide_eq_true h]; simp
  · rw [if_neg h, decide_eq_false h]; rfl
set_option maxHeartbeats 1600000 in
theorem rfresh_any {w : World} {v : Value} {L : List ByteArray} (h : Rf w v L) (hl : L.length ≤ 990) (S : ByteArray) (hS : okB S = true) : Calls Tryd.prog 22 #[v, .string S] w fun e w' => e = .returned (.string (fr L S)) ∧ Below w.heap.size w w' := by
  have HAT : Hid (∀ (w1 : World) (T : ByteArray), Below w.heap.size w w1 → Calls Tryd.prog 18 #[v, .string T] w1 fun e w' => e = .returned (.int .i64 (atI L T)) ∧ w1 = w') := Lib.hid (fun w1 T hb => rat_any (h.below hb) (by omega) T)
  have HSP : Hid (FrN L S (frN L S)) := Lib.hid (frN_spec S (by omega))
  have hsz : S.size ≤ 32 := ((okB_iff S).1 hS).2.1
  have HFR : Hid (∀ n, 1 ≤ n → n ≤ L.length + 1 → cand S n ∉ L → (∀ k, 1 ≤ k → k < n → cand S k ∈ L) → cand S n = fr L S) := Lib.hid (fun n h1 h2 h3 h4 => by unfold fr; rw [(frN_spec S (by omega)).eq ⟨h1, h2, h3, h4⟩])
  have HNUM := Lib.hid rnumber_any
  obtain ⟨q, c, rfl⟩ := h.form
  clear h
  obtain ⟨N, HN⟩ : ∃ N, Hid (L.length = N) := ⟨_, Lib.hid rfl⟩
  rw [HN.out] at hl HAT HFR ⊢
  go_enter Tryd.func22, Tryd.ntmps22
  go_wp2_with fail
  go_loopw [5, 6, 7] (fun nv _ _ wr => ∃ n : Nat, 1 ≤ n ∧ n ≤ N + 2 ∧ nv = .int .i64 (n : Int) ∧ Hid (∀ k, 1 ≤ k → k < n → cand S k ∈ L) ∧ Hid (Below w.heap.size w wr)) (fun nv _ _ _ => N + 2 - (intOf nv).toNat)
  case atStart => exact ⟨1, by omega, by omega, by go_num, Lib.hid (fun k h1 h2 => by omega), Lib.hid (Below.refl _ _)⟩
  case round =>
    obtain ⟨n, hn1, hn2, rfl, HJ, HB⟩ := hrel
    by_cases hlt : n ≤ N + 1
    · have hd : decide ((n : Int) ≤ (N : Int) + 1) = true := by simp; omega
      have hn : n < 1000 := by omega
      have hts := tail_str hn
      obtain ⟨E, HE⟩ : ∃ E, Hid (E = strB (tailM n)) := ⟨_, Lib.hid rfl⟩
      rw [← HE.out] at hts
      have hel : 2 ≤ E.size ∧ E.size ≤ 4 := by rw [HE.out, strB_size]; exact tailM_len n
      obtain ⟨D, HD⟩ : ∃ D, Hid (strB (digs n) = D) := ⟨_, Lib.hid rfl⟩
      have HNn : Hid (∀ w1, Calls Tryd.prog 29 #[.int .i64 (n : Int)] w1 fun e w' => e = .returned (.string D) ∧ Below w1.heap.size w1 w') := Lib.hid (fun w1 => by rw [← HD.out]; exact HNUM.out n hn w1)
      have hds : D.size ≤ 3 := by rw [← HD.out, strB_size]; exact (digs_len n).2
      rw [HD.out] at hts
      go_wp2_with (go_at_call 29; refine (HNn.out _).mono ?_; rintro e w1 ⟨rfl, hb1⟩; have HB1 := Lib.hid (HB.out.trans (hb1.mono HB.out.size)); clear hb1)
      clear hts hds
      obtain ⟨j, hj⟩ : ∃ j, E.size = j := ⟨_, rfl⟩
      rw [hj] at hel
      have HJE := Lib.hid hj
      have HNS := Lib.hid (nums_len S)
      obtain ⟨m, HM⟩ : ∃ m, Hid (S.size = m) := ⟨_, Lib.hid rfl⟩
      rw [HM.out] at hsz
      go_loop [7] (fun tv => ∃ (T : ByteArray) (k : Nat), tv = .string T ∧ k ≤ m ∧ (32 - j ≤ k ∨ k = m) ∧ Hid (T.size = k) ∧ Hid (nums T = (nums S).take k)) (fun tv => strLen tv)
      case atStart => exact ⟨S, m, rfl, Nat.le_refl _, .inr rfl, HM, Lib.hid (by rw [List.take_of_length_le (by rw [HNS.out, HM.out]; omega)])⟩
      case round =>
        obtain ⟨T, k, rfl, hk, hkj, HTS, HTN⟩ := hrel
        have hts := HTS.out
        by_cases h32 : 32 < k + j
        · have hd1 : decide ((32 : Int) < (k : Int) + (j : Int)) = true := by simp; omega
          obtain ⟨t, rfl⟩ : ∃ t, k = t + 1 := ⟨k - 1, by omega⟩
          have hle : t ≤ T.size := by omega
          have htz : (T.size : Int) - 1 = (t : Int) := by omega
          go_wp2_with fail
          case roundEnd =>
            refine ⟨⟨_, t, rfl, by omega, by omega, Lib.hid (by rw [extract_size T 0 t (Nat.zero_le _) hle]; omega), Lib.hid ?_⟩, ?_⟩
            · rw [nums_extract, List.drop_zero, Nat.sub_zero, HTN.out, List.take_take, Nat.min_eq_left (by omega)]
            · show (T.extract 0 t).size < T.size
              rw [extract_size T 0 t (Nat.zero_le _) hle]; omega
        · have hd1 : decide ((32 : Int) < (k : Int) + (j : Int)) = false := by simp; omega
          have HTE : Hid (T ++ E = cand S n) := Lib.hid (by
            have hnE : nums E = tailM n := by rw [HE.out, nums_strB (fun x hx => by have := tailM_chr hn x hx; omega)]
            have hjl : (tailM n).length = j := by rw [← HJE.out, ← nums_len, hnE]
            have hns := HNS.out
            rw [HM.out] at hns
            refine nums_inj ?_
            rw [nums_append, nums_cand hn, HTN.out, hnE]
            unfold candL
            rw [hjl]
            congr 1
            rcases hkj with h1 | h1
            · rw [show k = 32 - j by omega]
            · rw [List.take_of_length_le (by omega), List.take_of_length_le (by omega)])
          have HA := Lib.hid (HAT.out w1 (T ++ E) HB1.out)
          have hsum : T.size + E.size ≤ 32 := by have := HJE.out; omega
          have HNEG := Lib.hid (atI_neg L (T ++ E))
          by_cases hm : cand S n ∈ L
          · rw [HTE.out, decide_eq_true hm] at HNEG
            have hd2 : decide (atI L (T ++ E) < 0) = false := by rw [HTE.out]; exact HNEG.out
            have HMM := Lib.hid hm
            clear hm HNEG
            generalize atI L (T ++ E) = x at *
            go_wp2_with (refine HA.out.mono ?_; rintro e w2 ⟨rfl, rfl⟩)
            go_roundw
            case rel => exact ⟨n + 1, by omega, by omega, by go_num, Lib.hid (fun k h1 h2 => (Nat.lt_succ_iff_lt_or_eq.1 h2).elim (HJ.out k h1) (fun e => by rw [e]; exact HMM.out)), HB1⟩
            case measure => simp [intOf]; omega
          · rw [HTE.out, decide_eq_false hm] at HNEG
            have hd2 : decide (atI L (T ++ E) < 0) = true := by rw [HTE.out]; exact HNEG.out
            have HF := Lib.hid (HFR.out n hn1 hlt hm HJ.out)
            clear hm HNEG
            generalize atI L (T ++ E) = x at *
            go_wp2_with (refine HA.out.mono ?_; rintro e w2 ⟨rfl, rfl⟩)
            go_ret
            refine ⟨?_, HB1.out⟩
            rw [← HF.out, ← HTE.out]
            rfl
    · have hd : decide ((n : Int) ≤ (N : Int) + 1) = false := by simp; omega
      exfalso
      have h1 := HSP.out.le
      exact HSP.out.not_ (HJ.out _ HSP.out.pos (by rw [HN.out] at h1; omega))
end Go.Proofs.YtnagdjgicphknaaDoor
