/- light, told whole. -/
import Derived.Test.YthmajccajmnfcaaLKp
set_option maxRecDepth 20000
set_option linter.unusedSimpArgs false
namespace Go.Proofs.Ythmajccajmnfcaa
open Go.RowKit

instance (f : Nat → Opv) (n : Nat) : Decidable (lightM f n) := by unfold lightM; infer_instance
def lightB (f : Nat → Opv) (n : Nat) : Bool := decide (lightM f n)
theorem lightB_no {f : Nat → Opv} {n : Nat} (h : ¬ lightM f n) : lightB f n = false := decide_eq_false h
theorem lightB_yes {f : Nat → Opv} {n : Nat} (h : lightM f n) : lightB f n = true := decide_eq_true h
theorem lightB_iff {f : Nat → Opv} {n : Nat} : lightB f n = true ↔ lightM f n := ⟨fun h => of_decide_eq_true h, lightB_yes⟩
set_option maxHeartbeats 3200000 in
theorem light_det (q : Option Addr) (n c : Nat) (f : Nat → Opv) (w : World) (hn : n ≤ 9223372036854775807) (hO : OpsIn w q n f) (b : Bool) (hb : lightB f n = b) : Calls Try.prog 5 #[.slice q n c] w fun e w' => e = .returned (.bool b) ∧ w = w' := by
  have HO := Lib.hid hO
  have HB := Lib.hid hb
  clear hO hb
  by_cases h50 : 50 < n
  · have d0 : decide (50 < n) = true := decide_eq_true h50
    have d1 : decide ((50 : Int) < (n : Int)) = true := by simp; omega
    have e0 : false = b := (lightB_no (fun h => by have := h.1; omega)).symm.trans HB.out
    subst e0
    clear HB
    go_enter Try.func5, Try.ntmps5
    go_wp2_with fail
    go_ret
    exact ⟨rfl, rfl⟩
  have d0 : decide (50 < n) = false := decide_eq_false h50
  have d1 : decide ((50 : Int) < (n : Int)) = false := by simp; omega
  have hn50 : (n : Int) ≤ 50 := by omega
  have HN50 : Hid (n ≤ 50) := Lib.hid (by omega)
  clear h50
  go_enter Try.func5, Try.ntmps5
  go_wp2_with fail
  go_loopw [3] (fun iv wr => ∃ i : Nat, i ≤ n ∧ iv = .int .i64 (i : Int) ∧ Hid (∀ j, j < i → (f j).n ≤ 300 ∧ (f j).d ≤ 5000) ∧ wr = w) (fun iv _ => n - (intOf iv).toNat)
  case atStart => exact ⟨0, by omega, by go_num, Lib.hid fun j hj => absurd hj (Nat.not_lt_zero j), rfl⟩
  case round =>
    obtain ⟨i, hi, rfl, HJ, rfl⟩ := hrel
    by_cases hlt : i < n
    · obtain ⟨B, a, rfl, hat⟩ := HO.out (by omega)
      have hx := hat i hlt
      have x8 := hx.c8
      have x9 := hx.c9
      have hnl := hx.o.nl
      have hdl := hx.o.dl
      have hin : (i : Int) < (n : Int) := by omega
      have HNX : Hid ((f i).n ≤ 300 → (f i).d ≤ 5000 → ∀ j, j < i + 1 → (f j).n ≤ 300 ∧ (f j).d ≤ 5000) := Lib.hid fun h1 h2 j hj => (Nat.lt_succ_iff_lt_or_eq.1 hj).elim (HJ.out j) (fun e => by rw [e]; exact ⟨h1, h2⟩)
      have HZ3 : Hid (300 < (f i).n → lightB f n = false) := Lib.hid fun h => lightB_no (fun h2 => by have := (h2.2 i hlt).1; omega)
      have HZ5 : Hid (5000 < (f i).d → lightB f n = false) := Lib.hid fun h => lightB_no (fun h2 => by have := (h2.2 i hlt).2; omega)
      clear hat hx
      generalize (f i).n = fn at *
      generalize (f i).c = fc at *
      generalize (f i).q = fq at *
      generalize (f i).d = fd at *
      generalize (f i).e = fe at *
      generalize (f i).p = fp at *
      by_cases h3 : 300 < fn
      · have e0 : decide (300 < fn) = true := decide_eq_true h3
        have e1 : decide ((300 : Int) < (fn : Int)) = true := by simp; omega
        have e9 : false = b := (HZ3.out h3).symm.trans HB.out
        subst e9
        clear HNX h3 HZ3 HZ5
        go_wp2_with fail
        go_ret
        exact ⟨rfl, rfl⟩
      · have e0 : decide (300 < fn) = false := decide_eq_false h3
        have e1 : decide ((300 : Int) < (fn : Int)) = false := by simp; omega
        by_cases h5 : 5000 < fd
        · have e2 : decide (5000 < fd) = true := decide_eq_true h5
          have e3 : decide ((5000 : Int) < (fd : Int)) = true := by simp; omega
          have e9 : false = b := (HZ5.out h5).symm.trans HB.out
          subst e9
          clear HNX h3 h5 HZ3 HZ5
          go_wp2_with fail
          go_ret
          exact ⟨rfl, rfl⟩
        · have e2 : decide (5000 < fd) = false := decide_eq_false h5
          have e3 : decide ((5000 : Int) < (fd : Int)) = false := by simp; omega
          have HN2 := Lib.hid (HNX.out (by omega) (by omega))
          clear HNX h3 h5 HZ3 HZ5
          go_wp2_with fail
          go_roundw
          case rel => exact ⟨i + 1, by omega, by go_num, HN2, trivial⟩
          case measure => simp [intOf]; omega
    · obtain rfl : i = n := by omega
      have HL : Hid (lightM f i) := Lib.hid ⟨HN50.out, HJ.out⟩
      have e9 : true = b := (lightB_yes HL.out).symm.trans HB.out
      subst e9
      go_wp2_with fail
      go_ret
      exact ⟨rfl, rfl⟩
end Go.Proofs.Ythmajccajmnfcaa
