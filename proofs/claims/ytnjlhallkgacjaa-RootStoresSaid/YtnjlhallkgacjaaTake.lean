/- What the code's own sums return, and what they leave. -/
import Derived.Test.YtnjlhallkgacjaaProg
import Derived.Test.YtnjlhallkgacjaaCyc
import Derived.WalkKit
import Derived.WalkSpells
import Derived.WalkLawsBesides
import Derived.Laws.BitsAllLaws
import Derived.Lib.Hide
import Derived.Test.YtnjlhallkgacjaaBytes
import Derived.Outline
namespace Go.Proofs.Ytnjlhallkgacjaa
open Go.RowKit

def Eaten (k R V : Nat) : Prop := R < 4294967296 ∧ stps (8 - k) R = V
theorem eaten_put {k R V R2 : Nat} (h : Eaten k R V) (hk : k < 8) (h2 : stp R = R2) : Eaten (k + 1) R2 V := by
  obtain ⟨hl, he⟩ := h
  subst h2
  refine ⟨stp_lt hl, ?_⟩
  rw [← he, show 8 - k = (8 - (k + 1)) + 1 by omega]; rfl

set_option maxHeartbeats 400000 in
theorem take_any (r c : Nat) (w : World) (hr : r < 4294967296) (hc : c < 256) :
    Calls Try.prog 54 #[.int .u32 r, .int .u8 c] w fun e w' => e = .returned (.int .u32 (eat r c : Nat)) ∧ w = w' := by
  have hx := u32_xor_nat r c hr (by omega)
  have hw : IntKind.u32.wrap (c : Int) = c := by rw [IntKind.wrap_u32]; omega
  obtain ⟨V, HV⟩ : ∃ V, Hid (eat r c = V) := ⟨_, rfl⟩
  rw [HV.out]
  have H0 : Hid (Eaten 0 (r ^^^ c) V) := Lib.hid ⟨xor_lt hr (by omega), HV.out⟩
  go_enter Try.func54, Try.ntmps54
  go_wp2
  clear hx hw
  generalize r ^^^ c = R0 at *
  go_loop [0, 10] (fun rv iv => ∃ k R : Nat, k ≤ 8 ∧ iv = .int .i64 (k : Int) ∧ rv = .int .u32 (R : Int) ∧ Eaten k R V) (fun _ i => 8 - (intOf i).toNat)
  case atStart => exact ⟨0, R0, by omega, rfl, rfl, H0.out⟩
  case round =>
    obtain ⟨k, R, hk, rfl, rfl, hR⟩ := hrel
    have hl := hR.1
    have HR := Lib.hid hR
    clear hR H0
    by_cases hlt : k < 8
    · have hand : bits .and .u32 (R : Int) 1 = ((R % 2 : Nat) : Int) := by
        have h := u32_and_nat R 1 hl (by omega)
        rw [Nat.and_one_is_mod] at h; exact h
      by_cases ho : R % 2 = 1
      · have hb : (bits .and .u32 (R : Int) 1 == 1) = true := by rw [hand, ho]; rfl
        have hxp : bits .xor .u32 ((R : Int) / 2) 3988292384 = ((R / 2 ^^^ 3988292384 : Nat) : Int) := u32_xor_nat (R / 2) 3988292384 (by omega) (by omega)
        have HS : Hid (stp R = R / 2 ^^^ 3988292384) := Lib.hid (if_pos ho)
        clear ho hand
        go_wp2
        go_round
        case rel => exact ⟨k + 1, R / 2 ^^^ 3988292384, by omega, by go_num, rfl, eaten_put HR.out hlt HS.out⟩
        case measure => simp [intOf]; omega
      · have hb : (bits .and .u32 (R : Int) 1 == 1) = false := by rw [hand, show R % 2 = 0 by omega]; rfl
        have HS : Hid (stp R = R / 2) := Lib.hid (if_neg ho)
        clear ho hand
        go_wp2
        go_round
        case rel => exact ⟨k + 1, R / 2, by omega, by go_num, by go_num, eaten_put HR.out hlt HS.out⟩
        case measure => simp [intOf]; omega
    · obtain rfl : k = 8 := by omega
      obtain rfl : R = V := HR.out.2
      clear HV HR
      go_wp2
      go_ret
      exact ⟨rfl, rfl⟩

theorem eats_snoc (R : Nat) (bs : List Nat) (k : Nat) (h : k < bs.length) : eats R (bs.take (k + 1)) = eat (eats R (bs.take k)) (bs.getD k 0) := by
  rw [take_succ_getD bs k h, eats_append]; rfl
theorem max_u32 : IntKind.u32.max = ((full : Nat) : Int) := by decide
theorem ret_u32 {a b : Nat} (h : a = b) : Ending.returned (.int .u32 (a : Int)) = .returned (.int .u32 (b : Int)) := by rw [h]

set_option maxHeartbeats 400000 in
theorem more_zero (s : Nat) (p : Option Addr) (c : Nat) (w : World) (hs : s < 4294967296) :
    Calls Try.prog 47 #[.int .u32 s, .slice p 0 c] w fun e w' => e = .returned (.int .u32 (s : Nat)) ∧ w = w' := by
  have hx : bits .xor .u32 IntKind.u32.max (s : Int) = ((full ^^^ s : Nat) : Int) := by rw [max_u32]; exact u32_xor_nat full s (by decide) hs
  have hR : full ^^^ s < 4294967296 := xor_lt (by decide) hs
  have hy : bits .xor .u32 IntKind.u32.max ((full ^^^ s : Nat) : Int) = (s : Int) := by rw [max_u32, u32_xor_nat full _ (by decide) hR, ← Nat.xor_assoc, Nat.xor_self, Nat.zero_xor]
  generalize full ^^^ s = R0 at *
  go_enter Try.func47, Try.ntmps47
  go_wp2_with fail
  clear hx
  go_loop [5, 12] (fun rv iv => iv = .int .i64 0 ∧ rv = .int .u32 (R0 : Int)) (fun _ _ => 0)
  case atStart => exact ⟨by go_num, rfl⟩
  case round =>
    obtain ⟨rfl, rfl⟩ := hrel
    go_wp2_with fail
    go_ret
    exact ⟨rfl, rfl⟩

set_option maxHeartbeats 400000 in
theorem more_pos (s : Nat) (b o n c : Nat) (bs : List Nat) (w : World) (hs : s < 4294967296) (hm : n ≤ 9223372036854775807) (hB : Bys w (some ⟨b, o, none⟩) n bs) (hc : ∀ i, i < n → w.cell? ⟨b, o + i, none⟩ = some (.int .u8 ((bs.getD i 0 : Nat) : Int))) :
    Calls Try.prog 47 #[.int .u32 s, .slice (some ⟨b, o, none⟩) n c] w fun e w' => e = .returned (.int .u32 (more s bs : Nat)) ∧ w = w' := by
  have hx : bits .xor .u32 IntKind.u32.max (s : Int) = ((full ^^^ s : Nat) : Int) := by rw [max_u32]; exact u32_xor_nat full s (by decide) hs
  have hR : full ^^^ s < 4294967296 := xor_lt (by decide) hs
  obtain ⟨V, HV⟩ : ∃ V, Hid (more s bs = V) := ⟨_, rfl⟩
  rw [HV.out]
  unfold more at HV
  generalize full ^^^ s = R0 at *
  have HB := Lib.hid hB
  have HC := Lib.hid hc
  clear hB hc
  go_enter Try.func47, Try.ntmps47
  go_wp2_with fail
  clear hx
  go_loop [5, 12] (fun rv iv => ∃ k R : Nat, k ≤ n ∧ iv = .int .i64 (k : Int) ∧ rv = .int .u32 (R : Int) ∧ R < 4294967296 ∧ eats R0 (bs.take k) = R) (fun _ i => n - (intOf i).toNat)
  case atStart => exact ⟨0, R0, by omega, by go_num, rfl, hR, rfl⟩
  case round =>
    obtain ⟨k, R, hk, rfl, rfl, hR1, hR2⟩ := hrel
    have HR := Lib.hid hR2
    clear hR2
    by_cases hlt : k < n
    · have hcell := HC.out k hlt
      have hx := HB.out.getD k
      have HS := Lib.hid (eats_snoc R0 bs k (by rw [HB.out.len]; exact hlt))
      generalize bs.getD k 0 = x at *
      go_wp2_with (go_at_call 54; refine (take_any R x _ hR1 hx).mono ?_; rintro e w' ⟨rfl, rfl⟩)
      go_round
      case rel => exact ⟨k + 1, eat R x, by omega, by go_num, rfl, eat_lt hR1 hx, by rw [HS.out, HR.out]⟩
      case measure => simp [intOf]; omega
    · have HE : Hid (full ^^^ R = V) := by
        rw [← HV.out, ← HR.out, List.take_of_length_le (by rw [HB.out.len]; omega)]; exact Lib.hid rfl
      have hy : bits .xor .u32 IntKind.u32.max (R : Int) = ((full ^^^ R : Nat) : Int) := by rw [max_u32]; exact u32_xor_nat full R (by decide) hR1
      generalize full ^^^ R = X at *
      go_wp2_with fail
      go_ret
      exact ⟨ret_u32 HE.out, rfl⟩

theorem more_any (s : Nat) (p : Option Addr) (n c : Nat) (bs : List Nat) (w : World) (hs : s < 4294967296) (hm : n ≤ 9223372036854775807) (hB : Bys w p n bs) :
    Calls Try.prog 47 #[.int .u32 s, .slice p n c] w fun e w' => e = .returned (.int .u32 (more s bs : Nat)) ∧ w = w' := by
  rcases Nat.eq_zero_or_pos n with h | h
  · subst h
    rw [hB.nil_, more_nil]
    exact more_zero s p c w hs
  · obtain ⟨b, o, rfl, hc⟩ := hB.at h
    exact more_pos s b o n c bs w hs hm hB hc

set_option maxHeartbeats 400000 in
theorem sum_any (p : Option Addr) (n c : Nat) (bs : List Nat) (w : World) (hm : n ≤ 9223372036854775807) (hB : Bys w p n bs) :
    Calls Try.prog 41 #[.slice p n c] w fun e w' => e = .returned (.int .u32 (more 0 bs : Nat)) ∧ w = w' := by
  have HB := Lib.hid hB
  clear hB
  go_enter Try.func41, Try.ntmps41
  go_wp2_with (go_at_call 47; refine (more_any 0 p n c bs _ (by omega) hm HB.out).mono ?_; rintro e w' ⟨rfl, rfl⟩)
  go_ret
  exact ⟨rfl, rfl⟩
end Go.Proofs.Ytnjlhallkgacjaa
