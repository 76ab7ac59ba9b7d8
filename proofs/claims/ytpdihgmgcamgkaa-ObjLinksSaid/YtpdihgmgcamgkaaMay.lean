/- May a text be a name? -/
import Derived.Test.YtpdihgmgcamgkaaStr
import Derived.Deep.QuietTactic
import Derived.BigQuiet
set_option linter.unusedSimpArgs false
set_option maxRecDepth 20000
namespace Go.Proofs.Ytpdihgmgcamgkaa
open Go.RowKit

theorem okB_false {S : ByteArray} {i : Nat} (hi : i < S.size) (h : byteAt S i < 33 ∨ 126 < byteAt S i) : okB S = false := by
  cases e : okB S with
  | false => rfl
  | true => have := ((okB_iff S).1 e).2.2 i hi; omega
theorem okB_empty : okB ⟨#[]⟩ = false := by decide
theorem okB_long {S : ByteArray} (h : 32 < S.size) : okB S = false := by
  cases e : okB S with
  | false => rfl
  | true => have := ((okB_iff S).1 e).2.1; omega
theorem empty_of {S : ByteArray} (h : S.size = 0) : S = ⟨#[]⟩ := by apply ByteArray.ext; exact Array.eq_empty_of_size_eq_zero h
theorem isEmpty_false {S : ByteArray} (h : 0 < S.size) : S.toList.isEmpty = false := by
  cases e : S.toList.isEmpty with
  | false => rfl
  | true =>
    have h1 := List.isEmpty_iff.1 e
    rw [ByteArray.toList_eq] at h1
    have : S.size = 0 := by rw [← nums_len]; unfold nums; rw [h1]; rfl
    omega
set_option maxHeartbeats 800000 in
theorem may_any (S : ByteArray) (w : World) : Calls Try.prog 60 #[.string S] w fun e w' => e = .returned (.bool (okB S)) ∧ w = w' := by
  rcases Nat.eq_zero_or_pos S.size with h0 | h0
  · rw [empty_of h0, okB_empty]
    go_enter Try.func60, Try.ntmps60
    go_wp2_with fail
    go_ret
    exact ⟨rfl, rfl⟩
  · have he : S.toList.isEmpty = false := isEmpty_false h0
    by_cases hL : 32 < S.size
    · rw [okB_long hL]
      have hd : decide ((32 : Int) < (S.size : Int)) = true := by simp; omega
      go_enter Try.func60, Try.ntmps60
      go_wp2_with fail
      go_ret
      exact ⟨rfl, rfl⟩
    · have hd : decide ((32 : Int) < (S.size : Int)) = false := by simp; omega
      have HOK := Lib.hid (okB_iff S)
      have HIX : Hid (∀ i, i < S.size → ∀ w, (Instr.index 9 (.string S) (.int .i64 (i : Int))).run Try.prog w = .ok (.int .u8 (byteAt S i : Int)) w) := Lib.hid (fun i hi w => index_any S i hi w)
      have HF : Hid (∀ i, i < S.size → (byteAt S i < 33 ∨ 126 < byteAt S i) → okB S = false) := Lib.hid (fun i hi h => okB_false hi h)
      obtain ⟨n, HN⟩ : ∃ n, Hid (S.size = n) := ⟨_, Lib.hid rfl⟩
      rw [HN.out] at hd HIX HF h0 hL HOK
      have hn := HN.out
      go_enter Try.func60, Try.ntmps60
      go_wp2_with fail
      go_loop [3, 13] (fun _ iv => ∃ i : Nat, i ≤ n ∧ iv = .int .i64 (i : Int) ∧ Hid (∀ j, j < i → 33 ≤ byteAt S j ∧ byteAt S j ≤ 126)) (fun _ iv => n - (intOf iv).toNat)
      case atStart => exact ⟨0, by omega, by go_num, Lib.hid (fun j hj => absurd hj (Nat.not_lt_zero j))⟩
      case round =>
        obtain ⟨i, hi, rfl, HJ⟩ := hrel
        by_cases hlt : i < n
        · have hix := HIX.out i hlt
          have hF := HF.out i hlt
          obtain ⟨x, HX⟩ : ∃ x, Hid (byteAt S i = x) := ⟨_, Lib.hid rfl⟩
          rw [HX.out] at hix hF
          have HFI := Lib.hid hF
          have hd1 : decide ((i : Int) < (n : Int)) = true := by simp; omega
          by_cases h1 : x < 33
          · have hd2 : decide ((x : Int) < 33) = true := by simp; omega
            clear hF
            go_wp2_with fail
            go_ret
            rw [HFI.out (.inl h1)]
            exact ⟨rfl, rfl⟩
          · have hd2 : decide ((x : Int) < 33) = false := by simp; omega
            by_cases h2 : 126 < x
            · have hd3 : decide ((126 : Int) < (x : Int)) = true := by simp; omega
              clear hF
              go_wp2_with fail
              go_ret
              rw [HFI.out (.inr h2)]
              exact ⟨rfl, rfl⟩
            · have hd3 : decide ((126 : Int) < (x : Int)) = false := by simp; omega
              clear hF
              go_wp2_with fail
              go_round
              case rel => exact ⟨i + 1, by omega, by go_num, Lib.hid (fun j hj => (Nat.lt_succ_iff_lt_or_eq.1 hj).elim (HJ.out j) (fun e => by rw [e, HX.out]; omega))⟩
              case measure => simp [intOf]; omega
        · obtain rfl : i = n := by omega
          go_wp2_with fail
          go_ret
          rw [HOK.out.2 ⟨h0, by omega, HJ.out⟩]
          exact ⟨rfl, rfl⟩
set_option maxHeartbeats 800000 in
theorem rmay_any (S : ByteArray) (w : World) : Calls Try.prog 42 #[.string S] w fun e w' => e = .returned (.bool (okB S)) ∧ w = w' := by
  have HOK := Lib.hid (okB_iff S)
  have HIX : Hid (∀ i, i < S.size → ∀ w, (Instr.index 9 (.string S) (.int .i64 (i : Int))).run Try.prog w = .ok (.int .u8 (byteAt S i : Int)) w) := Lib.hid (fun i hi w => index_any S i hi w)
  have HF : Hid (∀ i, i < S.size → (byteAt S i < 33 ∨ 126 < byteAt S i) → okB S = false) := Lib.hid (fun i hi h => okB_false hi h)
  have HL : Hid (32 < S.size → okB S = false) := Lib.hid (fun h => okB_long h)
  have HE : Hid (S.size = 0 → okB S = false) := Lib.hid (fun h => by rw [empty_of h]; exact okB_empty)
  obtain ⟨n, HN⟩ : ∃ n, Hid (S.size = n) := ⟨_, Lib.hid rfl⟩
  rw [HN.out] at HIX HF HOK HL HE
  have hn := HN.out
  go_enter Try.func42, Try.ntmps42
  go_wp2_with fail
  go_loop [3] (fun iv => ∃ i : Nat, i ≤ n ∧ i ≤ 32 ∧ iv = .int .i64 (i : Int) ∧ Hid (∀ j, j < i → 33 ≤ byteAt S j ∧ byteAt S j ≤ 126)) (fun iv => n - (intOf iv).toNat)
  case atStart => exact ⟨0, by omega, by omega, by go_num, Lib.hid (fun j hj => absurd hj (Nat.not_lt_zero j))⟩
  case round =>
    obtain ⟨i, hi, hi2, rfl, HJ⟩ := hrel
    by_cases hlt : i < n
    · have hd1 : decide ((i : Int) < (n : Int)) = true := by simp; omega
      by_cases h32 : i = 32
      · subst h32
        have hd2 : decide ((32 : Int) ≤ ((32 : Nat) : Int)) = true := by decide
        go_wp2_with fail
        go_ret
        rw [HL.out (by omega)]
        exact ⟨rfl, rfl⟩
      · have hd2 : decide ((32 : Int) ≤ (i : Int)) = false := by simp; omega
        have hix := HIX.out i hlt
        have hF := HF.out i hlt
        obtain ⟨x, HX⟩ : ∃ x, Hid (byteAt S i = x) := ⟨_, Lib.hid rfl⟩
        rw [HX.out] at hix hF
        have HFI := Lib.hid hF
        by_cases h1 : x < 33
        · have hd3 : decide ((x : Int) < 33) = true := by simp; omega
          clear hF
          go_wp2_with fail
          go_ret
          rw [HFI.out (.inl h1)]
          exact ⟨rfl, rfl⟩
        · have hd3 : decide ((x : Int) < 33) = false := by simp; omega
          by_cases h2 : 126 < x
          · have hd4 : decide ((126 : Int) < (x : Int)) = true := by simp; omega
            clear hF
            go_wp2_with fail
            go_ret
            rw [HFI.out (.inr h2)]
            exact ⟨rfl, rfl⟩
          · have hd4 : decide ((126 : Int) < (x : Int)) = false := by simp; omega
            clear hF
            go_wp2_with fail
            go_round
            case rel => exact ⟨i + 1, by omega, by omega, by go_num, Lib.hid (fun j hj => (Nat.lt_succ_iff_lt_or_eq.1 hj).elim (HJ.out j) (fun e => by rw [e, HX.out]; omega))⟩
            case measure => simp [intOf]; omega
    · obtain rfl : i = n := by omega
      rcases Nat.eq_zero_or_pos i with h0 | h0
      · subst h0
        have hd2 : decide ((0 : Int) < ((0 : Nat) : Int)) = false := by decide
        go_wp2_with fail
        go_ret
        rw [HE.out trivial]
        exact ⟨rfl, rfl⟩
      · have hd2 : decide ((0 : Int) < (i : Int)) = true := by simp; omega
        go_wp2_with fail
        go_ret
        rw [HOK.out.2 ⟨h0, hi2, HJ.out⟩]
        exact ⟨rfl, rfl⟩
end Go.Proofs.Ytpdihgmgcamgkaa
