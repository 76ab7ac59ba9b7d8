/- What Clone, Equal and Bytes return. -/
import Derived.Test.YtipiblaoogneaaaSeek
import Derived.Lib.Strings
namespace Go.Proofs.Ytipiblaoogneaaa
open Go.RowKit

set_option maxHeartbeats 1600000 in
theorem clone_some (a : Addr) (n c : Nat) (bs : List Nat) (w : World) (hbig : n ≤ 140737488355328) (hB : Bys w (some a) n bs) :
    Calls Try.prog 38 #[.slice (some a) n c] w fun e w' => (∃ p c', e = .returned (.slice p n c') ∧ Bys w' p n bs) ∧ Below w.heap.size w w' := by
  obtain ⟨i0, hi, hz0, hz1, hz2⟩ := info_parts Try.info5
  have q37 : ∀ (w : World) (a : Option Addr) (n c n' c' : Nat), (binOp .eql 37 (.slice a n c) (.slice none n' c')).run Try.prog w = .ok (.bool a.isNone) w := fun w a n c n' c' => Lib.run_eql_slice_nil w _ _ a n c n' c' Try.underlying37
  have A := Lib.hid hB
  have HL : Hid ((u8s bs).length = n * 1) := Lib.hid (by rw [u8s_len, hB.len, Nat.mul_one])
  have HD := Lib.hid hB.dig
  clear hB
  go_enter Try.func38, Try.ntmps38
  go_wp2_with (at_builtin; refine wpList_append_own _ rfl _ _ 37 rfl w.heap.size 5 i0 (.int .u8 0) 1 1 Try.underlying37 hi hz0 hz1 hz2 rfl (by decide) _ _ _ rfl (World.ownsRow_made w #[] 0 (Nat.le_refl _) (Nat.zero_le _) rfl) a n c (u8s bs) rfl ?qc1 ?qc2 ?qc3 ?qc4 ?qc5 ?qc6 ?_)
  case qc1 => exact HL.out
  case qc2 =>
    intro j u hj
    have hjn : j < n := by
      have h1 := (List.getElem?_eq_some_iff.1 hj).1
      have := HL.out
      omega
    obtain ⟨ad, e, hc⟩ := (A.out.below ((Below.refl _ w).alloc (Nat.le_refl _) (.cells #[] 5))).cells (by omega)
    cases e
    exact hc j u hj
  case qc3 => exact u8s_one bs
  case qc4 => unfold maxLen; omega
  case qc5 => omega
  case qc6 => simp
  intro v' w1 hown hgrow hnil
  have HB := Lib.hid (((Below.refl _ w).alloc (Nat.le_refl _) (.cells #[] 5)).grown hgrow (by simp) (by intro k hk; simp [Value.ownBlock] at hk; omega))
  have hown2 : w1.ownsRow w.heap.size 5 1 v' n (u8s bs) := by simpa using hown
  clear hown hgrow hnil
  obtain ⟨p', c', rfl⟩ := own_slice hown2
  have HY := Lib.hid (Bys.own hown2 HD.out)
  clear hown2
  go_wp2_with fail
  go_ret
  exact ⟨⟨p', c', rfl, HY.out⟩, HB.out⟩
theorem nil_out {w : World} {n : Nat} {bs : List Nat} (h : Bys w none n bs) : n = 0 ∧ bs = [] := by
  obtain rfl : n = 0 := by
    rcases Nat.eq_zero_or_pos n with h0 | h0
    · exact h0
    · obtain ⟨b, o, e, _⟩ := h.at h0; cases e
  exact ⟨rfl, h.nil_⟩
theorem strB_beq {xs ys : List Nat} (hx : ∀ x ∈ xs, x < 256) (hy : ∀ x ∈ ys, x < 256) : ((strB xs).toList == (strB ys).toList) = decide (xs = ys) := by
  by_cases h : xs = ys
  · subst h; simp
  · rw [decide_eq_false h, beq_eq_false_iff_ne]
    intro he
    rw [Go.Lib.toList_data, Go.Lib.toList_data] at he
    exact h (strB_inj hx hy he)
set_option maxHeartbeats 800000 in
theorem equal_any (p q : Option Addr) (n c m d : Nat) (xs ys : List Nat) (w : World) (hx : Bys w p n xs) (hy : Bys w q m ys) :
    Calls Try.prog 37 #[.slice p n c, .slice q m d] w fun e w' => e = .returned (.bool (decide (xs = ys))) ∧ w = w' := by
  have h1 := hx.conv c
  have h2 := hy.conv d
  have he : ((strB xs).toList == (strB ys).toList) = decide (xs = ys) := strB_beq hx.dig hy.dig
  clear hx hy
  generalize strB xs = X at *
  generalize strB ys = Y at *
  go_enter Try.func37, Try.ntmps37
  go_wp2_with fail
  go_ret
  exact ⟨rfl, rfl⟩
/-- Bytes. -/
theorem bytes_any {w : World} {g b n : Nat} {f : Nat → Bool} (h : Sat w g b n f) : Calls Try.prog 17 #[.pointer (some ⟨g, 0, none⟩)] w fun e w' => (∃ p c, e = .returned (.slice p (need n) c) ∧ Bys w' p (need n) (rowF f (need n))) ∧ Below w.heap.size w w' := by
  have l1 := h.c1
  have HC := Lib.hid (clone_some ⟨b, 0, none⟩ (need n) (need n) (rowF f (need n)) w (by have := need_le h.le; omega) h.bys)
  clear h
  go_enter Try.func17, Try.ntmps17
  go_wp2_with (go_at_call 38; refine HC.out.mono ?_; rintro e w7 ⟨⟨p, c, rfl, hB⟩, hb⟩)
  go_ret
  exact ⟨⟨p, c, rfl, hB⟩, hb⟩
theorem bytes_nil (w : World) : Calls Try.prog 17 #[.pointer none] w fun e w' => e = .returned (.slice none 0 0) ∧ w = w' := by
  go_enter Try.func17, Try.ntmps17
  go_wp2_with fail
  go_ret
  exact ⟨rfl, rfl⟩
theorem sook_false (f : Nat → Bool) : sook f false = f := by funext i; unfold sook; cases f i <;> rfl
def gap (f : Nat → Bool) : Nat → Bool := fun i => !f i
theorem sook_true (f : Nat → Bool) : sook f true = gap f := by funext i; unfold sook gap; cases f i <;> rfl
theorem next_any {w : World} {g b n : Nat} {f : Nat → Bool} (h : Sat w g b n f) (x : Int) (hx : x ≤ 9223372036854775807) : Calls Try.prog 33 #[.pointer (some ⟨g, 0, none⟩), .int .i64 x] w fun e w' => e = .returned (.int .i64 (num (nxt f n x.toNat))) ∧ w = w' := by
  have HC := Lib.hid (seek_any h x hx false 0 rfl)
  rw [sook_false] at HC
  clear h
  go_enter Try.func33, Try.ntmps33
  go_wp2_with (go_at_call 46; refine HC.out.mono ?_; rintro e w7 ⟨rfl, rfl⟩)
  go_ret
  exact ⟨rfl, rfl⟩
theorem gap_any {w : World} {g b n : Nat} {f : Nat → Bool} (h : Sat w g b n f) (x : Int) (hx : x ≤ 9223372036854775807) : Calls Try.prog 35 #[.pointer (some ⟨g, 0, none⟩), .int .i64 x] w fun e w' => e = .returned (.int .i64 (num (nxt (gap f) n x.toNat))) ∧ w = w' := by
  have HC := Lib.hid (seek_any h x hx true 255 rfl)
  rw [sook_true] at HC
  clear h
  go_enter Try.func35, Try.ntmps35
  go_wp2_with (go_at_call 46; refine HC.out.mono ?_; rintro e w7 ⟨rfl, rfl⟩)
  go_ret
  exact ⟨rfl, rfl⟩
/-- Where a run that holds a place ends. -/
def endF (f : Nat → Bool) (n i : Nat) : Nat := (nxt (gap f) n i).getD n
theorem end_any {w : World} {g b n : Nat} {f : Nat → Bool} (h : Sat w g b n f) (i : Nat) (hx : i ≤ 2048) : Calls Try.prog 42 #[.pointer (some ⟨g, 0, none⟩), .int .i64 (i : Int)] w fun e w' => e = .returned (.int .i64 (endF f n i : Int)) ∧ w = w' := by
  have HG := Lib.hid (gap_any h (i : Int) (by omega))
  have HZ := Lib.hid (size_any h)
  rw [Int.toNat_natCast] at HG
  clear h hx
  unfold endF
  cases hn : nxt (gap f) n i with
  | none =>
    rw [hn] at HG
    have h1 : ((-1 : Int) != -1) = false := rfl
    unfold num at HG
    go_enter Try.func42, Try.ntmps42
    go_wp2_with (first
      | (go_at_call 35; refine HG.out.mono ?_; rintro e w7 ⟨rfl, rfl⟩)
      | (go_at_call 10; refine HZ.out.mono ?_; rintro e w7 ⟨rfl, rfl⟩))
    go_ret
    exact ⟨rfl, rfl⟩
  | some j =>
    rw [hn] at HG
    have h1 : ((j : Int) != -1) = true := by simp
    unfold num at HG
    go_enter Try.func42, Try.ntmps42
    go_wp2_with (go_at_call 35; refine HG.out.mono ?_; rintro e w7 ⟨rfl, rfl⟩)
    go_ret
    exact ⟨rfl, rfl⟩
end Go.Proofs.Ytipiblaoogneaaa
