/- Where a number's last byte is; a loop over bytes from behind; how many bits a number has. -/
import Derived.RangeFuncNested
import Derived.RangeFuncBound
import Derived.RangeFuncCalls
import Derived.RangeFuncLeaves
import Derived.RangeFuncBox
import Derived.Shelf.Abstract
import Derived.Shelf.RegionOpen
import Derived.WalkKit
import Derived.OwnWalkIn
import Derived.TacticsInMore
import Derived.LoopNIn
import Derived.LoopIn
import Derived.Test.YtpdihgmgcamgkaaRd
set_option maxRecDepth 20000
namespace Go.Proofs.Ytpdihgmgcamgkaa
open Go.RowKit Go.Shelf

set_option maxHeartbeats 400000 in
theorem last_any (x : Nat) (v : Bool) (w : World) (hv : Hid (decide ((x : Int) < 128) = v)) :
    Calls Try.prog 66 #[.int .u8 (x : Int)] w fun e w' => e = .returned (.bool v) ∧ w = w' := by
  have h := hv.out
  go_enter Try.func66, Try.ntmps66
  go_wp2_with fail
  go_ret
  exact ⟨rfl, rfl⟩

/-- The first places hold bytes that go on. -/
def Goes (bs : List Nat) (k : Nat) : Prop := ∀ j, j < k → 128 ≤ bs.getD j 0

set_option maxRecDepth 100000 in
set_option maxHeartbeats 800000 in
theorem index_hit (b o n c : Nat) (bs : List Nat) (k : Nat) (w : World) (hn : n ≤ 9223372036854775807) (hk : k < n) (hB : Bys w (some ⟨b, o, none⟩) n bs) (hg : Goes bs k) (hl : bs.getD k 0 < 128) :
    Calls Try.prog 65 #[.slice (some ⟨b, o, none⟩) n c, .func (.func 66) #[] #[]] w fun e w' => e = .returned (.int .i64 (k : Int)) ∧ w = w' := by
  have eg : ∀ args w, (callFunc 66 args).run Try.prog w = .ok (.enter 66 args) w := enters_of Try.func66 (by kernel_rfl) rfl
  obtain ⟨_, _, e, hc⟩ := hB.at (by omega)
  cases e
  have HC := Lib.hid hc
  have HG := Lib.hid hg
  have HL := Lib.hid hl
  clear hc hB hg hl
  go_enter Try.func65, Try.ntmps65
  go_wp2_with fail
  go_loop [8] (fun iv => ∃ i : Nat, i ≤ k ∧ iv = .int .i64 (i : Int)) (fun iv => k - (intOf iv).toNat)
  case atStart => exact ⟨0, by omega, by go_num⟩
  case round =>
    obtain ⟨i, hi, rfl⟩ := hrel
    have hcell := HC.out i (by omega)
    by_cases hlt : i < k
    · have HV : Hid (decide (((bs.getD i 0 : Nat) : Int) < 128) = false) := Lib.hid (decide_eq_false (by have := HG.out i hlt; omega))
      generalize bs.getD i 0 = y at *
      go_wp2_with (go_at_fn 66; refine (last_any y false _ HV).mono ?_; rintro e w1 ⟨rfl, rfl⟩)
      go_round
      case rel => exact ⟨i + 1, by omega, by go_num⟩
      case measure => simp [intOf]; omega
    · obtain rfl : i = k := by omega
      have HV : Hid (decide (((bs.getD i 0 : Nat) : Int) < 128) = true) := Lib.hid (decide_eq_true (by have := HL.out; omega))
      generalize bs.getD i 0 = y at *
      go_wp2_with (go_at_fn 66; refine (last_any y true _ HV).mono ?_; rintro e w1 ⟨rfl, rfl⟩)
      go_ret
      exact ⟨rfl, rfl⟩

set_option maxRecDepth 100000 in
set_option maxHeartbeats 800000 in
theorem index_none (p : Option Addr) (n c : Nat) (bs : List Nat) (w : World) (hn : n ≤ 9223372036854775807) (hB : Bys w p n bs) (hg : Goes bs n) :
    Calls Try.prog 65 #[.slice p n c, .func (.func 66) #[] #[]] w fun e w' => e = .returned (.int .i64 (-1)) ∧ w = w' := by
  have eg : ∀ args w, (callFunc 66 args).run Try.prog w = .ok (.enter 66 args) w := enters_of Try.func66 (by kernel_rfl) rfl
  have HC := Lib.hid hB
  have HG := Lib.hid hg
  clear hB hg
  go_enter Try.func65, Try.ntmps65
  go_wp2_with fail
  go_loop [8] (fun iv => ∃ i : Nat, i ≤ n ∧ iv = .int .i64 (i : Int)) (fun iv => n - (intOf iv).toNat)
  case atStart => exact ⟨0, by omega, by go_num⟩
  case round =>
    obtain ⟨i, hi, rfl⟩ := hrel
    by_cases hlt : i < n
    · obtain ⟨b, o, rfl, hc⟩ := HC.out.at (by omega)
      have hcell := hc i hlt
      have HV : Hid (decide (((bs.getD i 0 : Nat) : Int) < 128) = false) := Lib.hid (decide_eq_false (by have := HG.out i hlt; omega))
      clear hc
      generalize bs.getD i 0 = y at *
      go_wp2_with (go_at_fn 66; refine (last_any y false _ HV).mono ?_; rintro e w1 ⟨rfl, rfl⟩)
      go_round
      case rel => exact ⟨i + 1, by omega, by go_num⟩
      case measure => simp [intOf]; omega
    · go_wp2_with fail
      go_ret
      exact ⟨rfl, rfl⟩

theorem bitLen_le (x k : Nat) (h : x < 2 ^ k) : Lib.bitLen x ≤ k := by
  unfold Lib.bitLen
  have : ∀ (f x k : Nat), x < 2 ^ k → Lib.bitLenAux f x ≤ k := by
    intro f
    induction f with
    | zero => intro x k _; exact Nat.zero_le _
    | succ f ih =>
      intro x k h
      unfold Lib.bitLenAux
      split
      · exact Nat.zero_le _
      · cases k with
        | zero => omega
        | succ k => have := ih (x / 2) k (by rw [Nat.pow_succ] at h; omega); omega
  exact this 64 x k h
theorem lt_of_bitLen (x k : Nat) (hx : x < 18446744073709551616) (h : Lib.bitLen x ≤ k) : x < 2 ^ k := by
  unfold Lib.bitLen at h
  have : ∀ (f x k : Nat), x < 2 ^ f → Lib.bitLenAux f x ≤ k → x < 2 ^ k := by
    intro f
    induction f with
    | zero => intro x k h _; have : x = 0 := by simpa using h
              subst this; exact Nat.pos_of_ne_zero (by simp)
    | succ f ih =>
      intro x k hx h
      unfold Lib.bitLenAux at h
      split at h
      · rename_i h0; subst h0; exact Nat.pos_of_ne_zero (by simp)
      · cases k with
        | zero => omega
        | succ k =>
          have := ih (x / 2) k (by rw [Nat.pow_succ] at hx; omega) (by omega)
          rw [Nat.pow_succ]; omega
  exact this 64 x k (by simpa using hx) h
end Go.Proofs.Ytpdihgmgcamgkaa
