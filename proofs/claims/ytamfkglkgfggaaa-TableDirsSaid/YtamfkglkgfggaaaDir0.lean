/- Directories as bytes: zeros told; what Encode writes. -/
import Derived.Test.YtamfkglkgfggaaaRLoad
set_option linter.unusedSimpArgs false
namespace Go.Proofs.Ytamfkglkgfggaaa
open Go.RowKit

/-- Are so many bytes all 0? -/
def allZ (bs : List Nat) (n : Nat) : Bool := decide (∀ j, j < n → bs.getD j 0 = 0)
set_option maxRecDepth 100000 in
set_option maxHeartbeats 800000 in
theorem zeros_any (p : Option Addr) (n c : Nat) (bs : List Nat) (w : World) (hB : Bys w p n bs) (hn : n ≤ 1099511627776) :
    Calls Try.prog 48 #[.slice p n c] w fun e w' => e = .returned (.bool (allZ bs n)) ∧ w = w' := by
  have HB := Lib.hid hB
  have hnz : (n : Int) ≤ 1099511627776 := by omega
  clear hB hn
  go_enter Try.func48, Try.ntmps48
  go_wp2_with fail
  go_loop [7] (fun iv => ∃ i : Nat, i ≤ n ∧ iv = .int .i64 (i : Int) ∧ ∀ j, j < i → bs.getD j 0 = 0) (fun iv => n - (intOf iv).toNat)
  case atStart => exact ⟨0, by omega, by go_num, fun j hj => absurd hj (Nat.not_lt_zero j)⟩
  case round =>
    obtain ⟨i, hi, rfl, hz⟩ := hrel
    have HZ := Lib.hid hz
    clear hz
    by_cases hlt : i < n
    · obtain ⟨b, o, rfl, hc⟩ := HB.out.at (by omega)
      have hcell := hc i hlt
      have hd : decide ((i : Int) < (n : Int)) = true := decide_eq_true (by omega)
      have HL := Lib.hid hlt
      have hin : i < n := hlt
      clear hc hlt hi
      by_cases h0 : bs.getD i 0 = 0
      · rw [h0] at hcell
        have HN : Hid (∀ j, j < i + 1 → bs.getD j 0 = 0) := Lib.hid fun j hj => by
          by_cases e : j = i
          · rw [e]; exact h0
          · exact HZ.out j (by omega)
        clear h0
        go_wp2_with fail
        go_round
        case rel => exact ⟨i + 1, by have := HL.out; omega, by go_num, HN.out⟩
        case measure => have := HL.out; simp [intOf]; omega
      · have HA : Hid (allZ bs n = false) := Lib.hid (decide_eq_false fun h => h0 (h i HL.out))
        have hne : (((bs.getD i 0 : Nat) : Int) != 0) = true := by simpa using h0
        clear h0
        generalize bs.getD i 0 = y at *
        go_wp2_with fail
        go_ret
        exact ⟨by rw [HA.out]; rfl, rfl⟩
    · have hd : decide ((i : Int) < (n : Int)) = false := decide_eq_false (by omega)
      have hd2 : decide (i < n) = false := decide_eq_false hlt
      have HA : Hid (allZ bs n = true) := Lib.hid (decide_eq_true fun j hj => HZ.out j (by omega))
      clear hi
      go_wp2_with fail
      go_ret
      exact ⟨by rw [HA.out]; rfl, rfl⟩
/-- A leaves' pages, as a row. -/
def lvF (x y z u : Int) : Nat → Nat
  | 0 => x.toNat
  | 1 => y.toNat
  | 2 => z.toNat
  | 3 => u.toNat
  | _ => 0
/-- May all four be? -/
def okL (x y z u : Int) : Bool := mayI x && mayI y && mayI z && mayI u
theorem mayI_nn {x : Int} (h : mayI x = true) : 0 ≤ x ∧ x < 512 := by
  unfold mayI pgI at h
  simp only [Bool.or_eq_true, beq_iff_eq, Bool.and_eq_true, decide_eq_true_eq] at h
  omega
theorem okL_nat {x y z u : Int} (h : okL x y z u = true) : (0 ≤ x ∧ x < 512) ∧ (0 ≤ y ∧ y < 512) ∧ (0 ≤ z ∧ z < 512) ∧ (0 ≤ u ∧ u < 512) := by
  unfold okL at h
  simp only [Bool.and_eq_true] at h
  exact ⟨mayI_nn h.1.1.1, mayI_nn h.1.1.2, mayI_nn h.1.2, mayI_nn h.2⟩
theorem lvF_lt {x y z u : Int} (h : okL x y z u = true) (j : Nat) : lvF x y z u j < 512 := by
  obtain ⟨h1, h2, h3, h4⟩ := okL_nat h
  unfold lvF
  split <;> omega
/-- A directory's bytes. -/
def dirB (x y z u : Int) (f : Nat → Bool) : List Nat := fours (lvF x y z u) 4 ++ rowF f 64 ++ List.replicate 432 0
theorem dirB_len (x y z u : Int) (f : Nat → Bool) : (dirB x y z u f).length = 512 := by
  unfold dirB; rw [List.length_append, List.length_append, fours_len, rowF_len, List.length_replicate]
theorem dirB_dig {x y z u : Int} (h : okL x y z u = true) (f : Nat → Bool) : ∀ b ∈ dirB x y z u f, b < 256 :=
  dig_append (dig_append (fours_dig (lvF_lt h) 4) (rowF_dig _ _)) (by intro b hb; rw [List.mem_replicate] at hb; omega)
end Go.Proofs.Ytamfkglkgfggaaa
