/- What Clone, Equal and Bytes return. -/
import Derived.Test.YtamfkglkgfggaaaPut
import Derived.Lib.Strings
namespace Go.Proofs.Ytamfkglkgfggaaa
open Go.RowKit

set_option maxHeartbeats 1600000 in
theorem clone_some (a : Addr) (n c : Nat) (bs : List Nat) (w : World) (hbig : n ≤ 140737488355328) (hB : Bys w (some a) n bs) :
    Calls Try.prog 51 #[.slice (some a) n c] w fun e w' => (∃ p c', e = .returned (.slice p n c') ∧ Bys w' p n bs) ∧ Below w.heap.size w w' := by
  obtain ⟨i0, hi, hz0, hz1, hz2⟩ := info_parts Try.info5
  have q35 : ∀ (w : World) (a : Option Addr) (n c n' c' : Nat), (binOp .eql 35 (.slice a n c) (.slice none n' c')).run Try.prog w = .ok (.bool a.isNone) w := fun w a n c n' c' => Lib.run_eql_slice_nil w _ _ a n c n' c' Try.underlying35
  have A := Lib.hid hB
  have HL : Hid ((u8s bs).length = n * 1) := Lib.hid (by rw [u8s_len, hB.len, Nat.mul_one])
  have HD := Lib.hid hB.dig
  clear hB
  go_enter Try.func51, Try.ntmps51
  go_wp2_with (at_builtin; refine wpList_append_own _ rfl _ _ 35 rfl w.heap.size 5 i0 (.int .u8 0) 1 1 Try.underlying35 hi hz0 hz1 hz2 rfl (by decide) _ _ _ rfl (World.ownsRow_made w #[] 0 (Nat.le_refl _) (Nat.zero_le _) rfl) a n c (u8s bs) rfl ?qc1 ?qc2 ?qc3 ?qc4 ?qc5 ?qc6 ?_)
  case qc1 => exact HL.out
  case qc2 =>
    intro j u hj
    have hjn : j < n := by
      have h1 := (List.getElem?_eq_some_iff.1 hj).1
      have := HL.out
      omega
    obtain ⟨ad, e, hc⟩ := (A.out.below ((Below.refl _ w).alloc (Nat.le_refl _) (.cells #[] 5))).cells (by omega)
    cases e
    exact hc j u hj
  case qc3 => exact u8s_one bs
  case qc4 => unfold maxLen; omega
  case qc5 => omega
  case qc6 => simp
  intro v' w1 hown hgrow hnil
  have HB := Lib.hid (((Below.refl _ w).alloc (Nat.le_refl _) (.cells #[] 5)).grown hgrow (by simp) (by intro k hk; simp [Value.ownBlock] at hk; omega))
  have hown2 : w1.ownsRow w.heap.size 5 1 v' n (u8s bs) := by simpa using hown
  clear hown hgrow hnil
  obtain ⟨p', c', rfl⟩ := own_slice hown2
  have HY := Lib.hid (Bys.own hown2 HD.out)
  clear hown2
  go_wp2_with fail
  go_ret
  exact ⟨⟨p', c', rfl, HY.out⟩, HB.out⟩
theorem nil_out {w : World} {n : Nat} {bs : List Nat} (h : Bys w none n bs) : n = 0 ∧ bs = [] := by
  obtain rfl : n = 0 := by
    rcases Nat.eq_zero_or_pos n with h0 | h0
    · exact h0
    · obtain ⟨b, o, e, _⟩ := h.at h0; cases e
  exact ⟨rfl, h.nil_⟩
theorem strB_beq {xs ys : List Nat} (hx : ∀ x ∈ xs, x < 256) (hy : ∀ x ∈ ys, x < 256) : ((strB xs).toList == (strB ys).toList) = decide (xs = ys) := by
  by_cases h : xs = ys
  · subst h; simp
  · rw [decide_eq_false h, beq_eq_false_iff_ne]
    intro he
    rw [Go.Lib.toList_data, Go.Lib.toList_data] at he
    exact h (strB_inj hx hy he)
set_option maxHeartbeats 800000 in
theorem equal_any (p q : Option Addr) (n c m d : Nat) (xs ys : List Nat) (w : World) (hx : Bys w p n xs) (hy : Bys w q m ys) :
    Calls Try.prog 52 #[.slice p n c, .slice q m d] w fun e w' => e = .returned (.bool (decide (xs = ys))) ∧ w = w' := by
  have h1 := hx.conv c
  have h2 := hy.conv d
  have he : ((strB xs).toList == (strB ys).toList) = decide (xs = ys) := strB_beq hx.dig hy.dig
  clear hx hy
  generalize strB xs = X at *
  generalize strB ys = Y at *
  go_enter Try.func52, Try.ntmps52
  go_wp2_with fail
  go_ret
  exact ⟨rfl, rfl⟩
/-- Bytes. -/
theorem bytes_any {w : World} {g b n : Nat} {f : Nat → Bool} (h : Sat w g b n f) : Calls Try.prog 26 #[.pointer (some ⟨g, 0, none⟩)] w fun e w' => (∃ p c, e = .returned (.slice p (need n) c) ∧ Bys w' p (need n) (rowF f (need n))) ∧ Below w.heap.size w w' := by
  have l1 := h.c1
  have HC := Lib.hid (clone_some ⟨b, 0, none⟩ (need n) (need n) (rowF f (need n)) w (by have := need_le h.le; omega) h.bys)
  clear h
  go_enter Try.func26, Try.ntmps26
  go_wp2_with (go_at_call 51; refine HC.out.mono ?_; rintro e w7 ⟨⟨p, c, rfl, hB⟩, hb⟩)
  go_ret
  exact ⟨⟨p, c, rfl, hB⟩, hb⟩
theorem bytes_nil (w : World) : Calls Try.prog 26 #[.pointer none] w fun e w' => e = .returned (.slice none 0 0) ∧ w = w' := by
  go_enter Try.func26, Try.ntmps26
  go_wp2_with fail
  go_ret
  exact ⟨rfl, rfl⟩
end Go.Proofs.Ytamfkglkgfggaaa
