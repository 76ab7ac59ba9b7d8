/- A block of which some bits within 32 side by side were changed: what it is. -/
import Derived.Test.YtnjlhallkgacjaaMdl
namespace Go.Proofs.Ytnjlhallkgacjaa

theorem mod_two (mk k : Nat) : mk % 2 ^ (k + 1) = mk % 2 ^ k + 2 ^ k * (mk / 2 ^ k % 2) := by
  rw [Nat.pow_succ, Nat.mod_mul]
theorem mod_yes {mk k : Nat} (h : mk / 2 ^ k % 2 = 1) : mk % 2 ^ (k + 1) = mk % 2 ^ k ^^^ 2 ^ k := by
  rw [mod_two, h, Nat.mul_one]
  have hl : mk % 2 ^ k < 2 ^ k := Nat.mod_lt _ (Nat.two_pow_pos k)
  apply Nat.eq_of_testBit_eq
  intro i
  rw [show mk % 2 ^ k + 2 ^ k = 2 ^ k * 1 + mk % 2 ^ k by omega, Nat.testBit_two_pow_mul_add _ hl, Nat.testBit_xor, Nat.testBit_two_pow]
  by_cases hi : i < k
  · simp [hi, show ¬ k = i by omega]
  · have e : (mk % 2 ^ k).testBit i = false := Nat.testBit_lt_two_pow (Nat.lt_of_lt_of_le hl (Nat.pow_le_pow_right (by omega) (by omega)))
    rw [if_neg hi, e, Bool.false_xor]
    by_cases hk : k = i
    · subst hk; simp
    · have : (1 : Nat).testBit (i - k) = false := by rw [show (1 : Nat) = 2 ^ 0 from rfl, Nat.testBit_two_pow]; exact decide_eq_false (by omega)
      rw [this]; exact (decide_eq_false hk).symm
theorem mod_no {mk k : Nat} (h : mk / 2 ^ k % 2 ≠ 1) : mk % 2 ^ (k + 1) = mk % 2 ^ k := by
  rw [mod_two, show mk / 2 ^ k % 2 = 0 by omega]; rfl
theorem mod_mod_low (mk : Nat) {a k : Nat} (h : a ≤ k) : mk % 2 ^ k % 2 ^ a = mk % 2 ^ a :=
  Nat.mod_mod_of_dvd _ (Nat.pow_dvd_pow 2 h)
theorem mod_mod_high (mk : Nat) {a k : Nat} (h : k ≤ a) : mk % 2 ^ k % 2 ^ a = mk % 2 ^ k :=
  Nat.mod_eq_of_lt (Nat.lt_of_lt_of_le (Nat.mod_lt _ (Nat.two_pow_pos k)) (Nat.pow_le_pow_right (by omega) h))
/-- The bits that were turned so far. -/
structure Flips (S0 us : List Nat) (t mk k : Nat) : Prop where
  len : us.length = 128
  dig : ∀ x ∈ us, x < 256
  all : eats full us = eats full S0 ^^^ stps (1024 - t) (mk % 2 ^ k)
  head : eats full (us.take 120) = eats full (S0.take 120) ^^^ stps (960 - t) (mk % 2 ^ k % 2 ^ (960 - t))
  same : mk % 2 ^ k % 2 ^ (960 - t) = 0 → us.take 120 = S0.take 120
  none_ : mk = 0 → us = S0
theorem Flips.start {S0 : List Nat} (h : S0.length = 128) (hd : ∀ x ∈ S0, x < 256) (t mk : Nat) : Flips S0 S0 t mk 0 := by
  have e : mk % 2 ^ 0 = 0 := by rw [Nat.pow_zero]; exact Nat.mod_one mk
  exact ⟨h, hd, by rw [e, stps_zero, Nat.xor_zero], by rw [e, Nat.zero_mod, stps_zero, Nat.xor_zero], fun _ => rfl, fun _ => rfl⟩
theorem Flips.no {S0 us : List Nat} {t mk k : Nat} (h : Flips S0 us t mk k) (hb : mk / 2 ^ k % 2 ≠ 1) : Flips S0 us t mk (k + 1) := by
  have e := mod_no hb
  exact ⟨h.len, h.dig, by rw [e]; exact h.all, by rw [e]; exact h.head, by rw [e]; exact h.same, h.none_⟩
theorem take_set (l : List Nat) (i x n : Nat) (_h : i < n) : (l.set i x).take n = (l.take n).set i x := by
  rw [List.take_set]
theorem take_set_high (l : List Nat) (i x n : Nat) (h : n ≤ i) : (l.set i x).take n = l.take n := by
  rw [List.take_set, List.set_eq_of_length_le (by rw [List.length_take]; omega)]
theorem Flips.yes {S0 us : List Nat} {t mk k : Nat} (h : Flips S0 us t mk k) (hb : mk / 2 ^ k % 2 = 1) (ht : t ≤ 992) (hk : k < 32) :
    Flips S0 (us.set ((t + k) / 8) (us.getD ((t + k) / 8) 0 ^^^ 2 ^ ((t + k) % 8))) t mk (k + 1) := by
  have hl := h.len
  have hi : (t + k) / 8 < us.length := by omega
  have hj : (t + k) % 8 < 8 := Nat.mod_lt _ (by omega)
  have hp : 2 ^ ((t + k) % 8) < 2 ^ 8 := Nat.pow_lt_pow_right (by omega) hj
  have hz : us[(t + k) / 8] < 2 ^ 8 := h.dig _ (List.getElem_mem _)
  have hg : us.getD ((t + k) / 8) 0 = us[(t + k) / 8] := by rw [List.getD_eq_getElem?_getD, List.getElem?_eq_getElem hi]; rfl
  rw [hg]
  refine ⟨by rw [List.length_set, hl], fun x hx => ?_, ?_, ?_, ?_, ?_⟩
  · rcases List.mem_or_eq_of_mem_set hx with hx | hx
    · exact h.dig x hx
    · rw [hx]; exact Nat.xor_lt_two_pow hz hp
  · rw [eats_flip us full _ _ hi hj, h.all, mod_yes hb, stps_xor, stps_pow _ _ (by omega), Nat.xor_assoc, hl]
    congr 3
    omega
  · by_cases hin : t + k < 960
    · have hi2 : (t + k) / 8 < (us.take 120).length := by rw [List.length_take]; omega
      have hg2 : (us.take 120)[(t + k) / 8] = us[(t + k) / 8] := by rw [List.getElem_take]
      rw [take_set _ _ _ _ (by omega), ← hg2, eats_flip (us.take 120) full _ _ hi2 hj, h.head, mod_mod_high mk (show k + 1 ≤ 960 - t by omega), mod_mod_high mk (show k ≤ 960 - t by omega), mod_yes hb, stps_xor, stps_pow _ _ (by omega), Nat.xor_assoc,
        show (us.take 120).length = 120 by rw [List.length_take]; omega]
      congr 3
      omega
    · rw [take_set_high _ _ _ _ (by omega), h.head, mod_mod_low mk (show 960 - t ≤ k by omega), mod_mod_low mk (show 960 - t ≤ k + 1 by omega)]
  · intro h0
    by_cases hin : t + k < 960
    · exfalso
      rw [mod_mod_high mk (show k + 1 ≤ 960 - t by omega), mod_two, hb] at h0
      have := Nat.two_pow_pos k
      omega
    · rw [take_set_high _ _ _ _ (by omega)]
      rw [mod_mod_low mk (show 960 - t ≤ k + 1 by omega)] at h0
      exact h.same (by rw [mod_mod_low mk (show 960 - t ≤ k by omega)]; exact h0)
  · intro h0
    rw [h0, Nat.zero_div] at hb
    omega
theorem fine_seal {bs : List Nat} (h : ∀ x ∈ bs, x < 256) : fine (bs ++ tailOf (more 0 bs)) := (fine_iff bs _ h (more_lt (by decide) h)).2 rfl
theorem fine_block (r : Rt) : fine ((block r).take 120) := by rw [block_sealed]; exact fine_seal (body_dig r)
/-- A block that was changed so counts no more. -/
theorem harm_no {r : Rt} {us : List Nat} {t mk : Nat} (h : Flips (block r) us t mk 32) (hm : mk < 4294967296) (h0 : mk ≠ 0) : decE us ≠ 0 := by
  intro hE
  obtain ⟨hM, hB, _, hl⟩ := dec_ok hE
  have hf : fine (us.take 120) := by rw [← hB]; exact fine_block _
  have hends : us.take 8 = us.drop 120 := by rw [← hB, block_first, block_last]
  have e32 : mk % 2 ^ 32 = mk := Nat.mod_eq_of_lt hm
  have hhead := h.head
  have hsame := h.same
  have hall := h.all
  rw [e32] at hhead hsame hall
  by_cases hz : mk % 2 ^ (960 - t) = 0
  · have hs := hsame hz
    have h8 : us.take 8 = (block r).take 8 := by
      have := congrArg (List.take 8) hs
      rwa [List.take_take, List.take_take] at this
    have h120 : us.drop 120 = (block r).drop 120 := by rw [← hends, h8, block_first, block_last]
    have heq : us = block r := by rw [← List.take_append_drop 120 us, hs, h120, List.take_append_drop]
    rw [heq] at hall
    exact burst_ne hm h0 _ hall.symm
  · have hf2 := fine_block r
    unfold fine at hf hf2
    rw [hf, hf2] at hhead
    exact burst_ne (Nat.lt_of_le_of_lt (Nat.mod_le _ _) hm) hz _ hhead.symm
end Go.Proofs.Ytnjlhallkgacjaa
