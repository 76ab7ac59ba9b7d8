/- light: what it says of two slices. -/
import Derived.Test.YtekmboolfjicbaaLOps14
set_option maxRecDepth 20000
set_option linter.unusedSimpArgs false
set_option linter.unusedVariables false
namespace Go.Proofs.Ytekmboolfjicbaa
open Go.RowKit

set_option maxHeartbeats 3200000 in
theorem light_iff (q : Option Addr) (n c : Nat) (f : Nat → Opv) (w : World) (hn : n ≤ 9223372036854775807) (hO : OpsIn w q n f) (q2 : Option Addr) (n2 c2 : Nat) (hn2 : n2 ≤ 9223372036854775807) : Calls Try.prog 5 #[.slice q n c, .slice q2 n2 c2] w fun e w' => (∃ b, e = .returned (.bool b) ∧ (b = true ↔ lightM f n ∧ n2 ≤ 50)) ∧ w = w' := by
  have HO := Lib.hid hO
  clear hO
  by_cases h50 : 50 < n
  · have d0 : decide (50 < n) = true := decide_eq_true h50
    have d1 : decide ((50 : Int) < (n : Int)) = true := by simp; omega
    go_enter Try.func5, Try.ntmps5
    go_wp2_with fail
    go_ret
    exact ⟨⟨false, rfl, Iff.intro Bool.noConfusion fun h => absurd h.1.1 (by have := of_decide_eq_true d0; omega)⟩, rfl⟩
  have d0 : decide (50 < n) = false := decide_eq_false h50
  have d1 : decide ((50 : Int) < (n : Int)) = false := by simp; omega
  have hn50 : (n : Int) ≤ 50 := by omega
  have HN50 : Hid (n ≤ 50) := Lib.hid (by omega)
  clear h50
  by_cases h51 : 50 < n2
  · have e0 : decide (50 < n2) = true := decide_eq_true h51
    have e1 : decide ((50 : Int) < (n2 : Int)) = true := by simp; omega
    go_enter Try.func5, Try.ntmps5
    go_wp2_with fail
    go_ret
    exact ⟨⟨false, rfl, Iff.intro Bool.noConfusion fun h => absurd h.2 (by have := of_decide_eq_true e0; omega)⟩, rfl⟩
  have d2 : decide (50 < n2) = false := decide_eq_false h51
  have d3 : decide ((50 : Int) < (n2 : Int)) = false := by simp; omega
  have HN51 : Hid (n2 ≤ 50) := Lib.hid (by omega)
  clear h51
  go_enter Try.func5, Try.ntmps5
  go_wp2_with fail
  go_loopw [5] (fun iv wr => ∃ i : Nat, i ≤ n ∧ iv = .int .i64 (i : Int) ∧ Hid (∀ j, j < i → (f j).n ≤ 300 ∧ (f j).d ≤ 5000) ∧ wr = w) (fun iv _ => n - (intOf iv).toNat)
  case atStart => exact ⟨0, by omega, by go_num, Lib.hid fun j hj => absurd hj (Nat.not_lt_zero j), rfl⟩
  case round =>
    obtain ⟨i, hi, rfl, HJ, rfl⟩ := hrel
    by_cases hlt : i < n
    · obtain ⟨B, a, rfl, hat⟩ := HO.out (by omega)
      have hx := hat i hlt
      have x7 := hx.c7
      have x8 := hx.c8
      have hnl := hx.o.nl
      have hdl := hx.o.dl
      have hin : (i : Int) < (n : Int) := by omega
      have HNX : Hid ((f i).n ≤ 300 → (f i).d ≤ 5000 → ∀ j, j < i + 1 → (f j).n ≤ 300 ∧ (f j).d ≤ 5000) := Lib.hid fun h1 h2 j hj => (Nat.lt_succ_iff_lt_or_eq.1 hj).elim (HJ.out j) (fun e => by rw [e]; exact ⟨h1, h2⟩)
      have HBAD : Hid (300 < (f i).n ∨ 5000 < (f i).d → ¬ lightM f n) := Lib.hid fun h hl => by have := hl.2 i hlt; omega
      clear hat hx
      generalize (f i).n = fn at *
      generalize (f i).c = fc at *
      generalize (f i).q = fq at *
      generalize (f i).d = fd at *
      generalize (f i).e = fe at *
      generalize (f i).p = fp at *
      by_cases h3 : 300 < fn
      · have e0 : decide (300 < fn) = true := decide_eq_true h3
        have e1 : decide ((300 : Int) < (fn : Int)) = true := by simp; omega
        clear HNX h3
        go_wp2_with fail
        go_ret
        exact ⟨⟨false, rfl, Iff.intro Bool.noConfusion fun h => (HBAD.out (.inl (of_decide_eq_true e0)) h.1).elim⟩, rfl⟩
      · have e0 : decide (300 < fn) = false := decide_eq_false h3
        have e1 : decide ((300 : Int) < (fn : Int)) = false := by simp; omega
        by_cases h5 : 5000 < fd
        · have e2 : decide (5000 < fd) = true := decide_eq_true h5
          have e3 : decide ((5000 : Int) < (fd : Int)) = true := by simp; omega
          clear HNX h3 h5
          go_wp2_with fail
          go_ret
          exact ⟨⟨false, rfl, Iff.intro Bool.noConfusion fun h => (HBAD.out (.inr (of_decide_eq_true e2)) h.1).elim⟩, rfl⟩
        · have e2 : decide (5000 < fd) = false := decide_eq_false h5
          have e3 : decide ((5000 : Int) < (fd : Int)) = false := by simp; omega
          have HN2 := Lib.hid (HNX.out (by omega) (by omega))
          clear HNX h3 h5
          go_wp2_with fail
          go_roundw
          case rel => exact ⟨i + 1, by omega, by go_num, HN2, trivial⟩
          case measure => simp [intOf]; omega
    · obtain rfl : i = n := by omega
      have HL : Hid (lightM f i ∧ n2 ≤ 50) := Lib.hid ⟨⟨HN50.out, HJ.out⟩, HN51.out⟩
      go_wp2_with fail
      go_ret
      exact ⟨⟨true, rfl, Iff.intro (fun _ => HL.out) fun _ => rfl⟩, rfl⟩
theorem light_det (q : Option Addr) (n c : Nat) (f : Nat → Opv) (w : World) (hn : n ≤ 9223372036854775807) (hO : OpsIn w q n f) (q2 : Option Addr) (n2 c2 : Nat) (hn2 : n2 ≤ 9223372036854775807) (b : Bool) (hb : b = true ↔ lightM f n ∧ n2 ≤ 50) :
    Calls Try.prog 5 #[.slice q n c, .slice q2 n2 c2] w fun e w' => e = .returned (.bool b) ∧ w = w' := by
  refine (light_iff q n c f w hn hO q2 n2 c2 hn2).mono ?_
  rintro e w' ⟨⟨b', rfl, h⟩, rfl⟩
  have : b' = b := by
    cases b <;> cases b'
    · rfl
    · exact (hb.2 (h.1 rfl)).symm
    · exact h.2 (hb.1 rfl)
    · rfl
  rw [this]
  exact ⟨rfl, rfl⟩
end Go.Proofs.Ytekmboolfjicbaa
