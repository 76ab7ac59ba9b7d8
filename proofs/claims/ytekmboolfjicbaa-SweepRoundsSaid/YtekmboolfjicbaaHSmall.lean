/- The small calls of the memory of objects. -/
import Derived.Test.YtekmboolfjicbaaHMem
import Derived.BigQuiet
import Derived.Deep.QuietTactic
set_option maxRecDepth 20000
set_option linter.unusedSimpArgs false
namespace Go.Proofs.Ytekmboolfjicbaa
open Go.RowKit

theorem below_drewN {B : Nat} {a w : World} (h : Below B a w) (n : Nat) : Below B a (w.drewN n) := ⟨h.os, h.tape, h.output, h.size, h.block⟩
/-- The cell that a value refers to. -/
def cellV (S : Nat → Option Pos) (L : Pls) (v : Int × Int) : Value := if hasP L v = true then ptrV S v.2.toNat else .pointer none
section
variable {w : World} {g mb : Nat} {vr : Value} {S : Nat → Option Pos} {m : Hm}
theorem refTo_any (n : Int) (w : World) : Calls Try.prog 32 #[.int .i64 n] w fun e w' => e = .returned (.agg #[.int .i64 8, .int .i64 n]) ∧ Below w.heap.size w w' := by
  go_enter Try.func32, Try.ntmps32
  go_wp2_with fail
  exact bodyPost_ret (v := .agg #[.int .i64 8, .int .i64 n]) (by simp [results, Try.results32, go_sem]) rfl ⟨rfl, (Below.refl _ _).alloc (Nat.le_refl _) _⟩
theorem Hp.full (h : Hp w g vr mb S m) : Calls Try.prog 31 #[.pointer (some ⟨g, 0, none⟩)] w fun e w' => e = .returned (.bool (decide (m.lim ≤ liveN m.L))) ∧ Below w.heap.size w w' := by
  have c0 := h.c0
  have c2 := h.c2
  clear h
  generalize liveN m.L = lv at *
  generalize m.lim = lm at *
  go_enter Try.func31, Try.ntmps31
  go_wp2_with fail
  go_quiet (fail)
  go_wp2_with fail
  go_ret
  exact ⟨rfl, below_drewN (Below.refl _ _) _⟩
set_option maxHeartbeats 800000 in
theorem Hp.cell (h : Hp w g vr mb S m) (K N : Int) (h0 : -9223372036854775808 ≤ N) (h1 : N ≤ 9223372036854775807) : Calls Try.prog 58 #[.pointer (some ⟨g, 0, none⟩), .agg #[.int .i64 K, .int .i64 N]] w fun e w' => e = .returned (cellV S m.L (K, N)) ∧ Below w.heap.size w w' := by
  have c1 := h.c1
  have hg := h.glt
  have hs := h.short
  by_cases hK : K = 8
  · subst hK
    by_cases hN : N < 0
    · have hd : decide (N < 0) = true := decide_eq_true hN
      have HV : Hid (cellV S m.L (8, N) = .pointer none) := Lib.hid (if_neg (by rw [hasP_iff]; rintro ⟨_, h, _⟩; have : (0 : Int) ≤ N := h; omega))
      rw [HV.out]
      obtain ⟨q, d, rfl⟩ := h.form
      clear h
      go_enter Try.func58, Try.ntmps58
      go_wp2_with fail
      go_quiet (fail)
      go_wp2_with fail
      go_ret
      exact ⟨rfl, below_drewN ((Below.refl _ _).alloc (Nat.le_refl _) _) _⟩
    · obtain ⟨k, rfl⟩ : ∃ k : Nat, N = (k : Int) := ⟨N.toNat, by omega⟩
      have hd : decide ((k : Int) < 0) = false := by simp
      by_cases hk : k < m.L.length
      · have hd2 : decide ((m.L.length : Int) ≤ (k : Int)) = false := by simp; omega
        have HV : Hid (cellV S m.L (8, (k : Int)) = ptrV S k) := Lib.hid (by
          unfold cellV
          rw [Int.toNat_natCast]
          split
          · rfl
          · rename_i hn
            cases hc : clAt m.L k with
            | none => unfold ptrV; rw [h.none_ k hc]; rfl
            | some c => exact absurd (hasP_iff.2 ⟨rfl, by show (0 : Int) ≤ (k : Int); omega, c, by rw [Int.toNat_natCast]; exact hc⟩) hn)
        rw [HV.out]
        obtain ⟨b, c, rfl, hc, a1, _⟩ := h.at' hk
        have hb := World.block_lt_of_cell? w _ a1
        have hki : (k : Int) < (m.L.length : Int) := by omega
        obtain ⟨n, HN⟩ : ∃ n, Hid (m.L.length = n) := ⟨_, Lib.hid rfl⟩
        rw [HN.out] at c1 hs hd2 hc hki
        clear h hk
        generalize ptrV S k = pv at *
        go_enter Try.func58, Try.ntmps58
        go_wp2_with fail
        go_quiet (fail)
        go_wp2_with fail
        go_quiet (fail)
        go_wp2_with fail
        go_ret
        exact ⟨rfl, below_drewN (below_drewN ((Below.refl _ _).alloc (Nat.le_refl _) _) _) _⟩
      · have hd2 : decide ((m.L.length : Int) ≤ (k : Int)) = true := by simp; omega
        have HV : Hid (cellV S m.L (8, (k : Int)) = .pointer none) := Lib.hid (if_neg (by
          rw [hasP_iff]; rintro ⟨_, _, c, hc⟩
          have := clAt_some hc
          rw [Int.toNat_natCast] at this
          exact hk this))
        rw [HV.out]
        obtain ⟨q, d, rfl⟩ := h.form
        obtain ⟨n, HN⟩ : ∃ n, Hid (m.L.length = n) := ⟨_, Lib.hid rfl⟩
        rw [HN.out] at c1 hs hd2
        have hd3 : decide (n ≤ k) = true := by have := HN.out; simp; omega
        clear h hk
        go_enter Try.func58, Try.ntmps58
        go_wp2_with fail
        go_quiet (fail)
        go_wp2_with fail
        go_ret
        exact ⟨rfl, below_drewN ((Below.refl _ _).alloc (Nat.le_refl _) _) _⟩
  · have hd : (K != 8) = true := by simp [hK]
    have HV : Hid (cellV S m.L (K, N) = .pointer none) := Lib.hid (if_neg (by rw [hasP_iff]; rintro ⟨h, _⟩; exact hK h))
    rw [HV.out]
    obtain ⟨q, d, rfl⟩ := h.form
    clear h
    go_enter Try.func58, Try.ntmps58
    go_wp2_with fail
    go_quiet (fail)
    go_wp2_with fail
    go_ret
    exact ⟨rfl, below_drewN ((Below.refl _ _).alloc (Nat.le_refl _) _) _⟩
theorem cellV_nil (S : Nat → Option Pos) (L : Pls) (v : Int × Int) (h : hasP L v = false) : cellV S L v = .pointer none := if_neg (by rw [h]; decide)
theorem Hp.cellV_some (h : Hp w g vr mb S m) {v : Int × Int} {c : Cl} (hv : hasP m.L v = true) (hc : clAt m.L v.2.toNat = some c) : ∃ x, S v.2.toNat = some x ∧ CelAt w x c ∧ cellV S m.L v = .pointer (some ⟨x.1, 0, none⟩) := by
  obtain ⟨x, hx, hca⟩ := h.at_ _ c hc
  refine ⟨x, hx, hca, ?_⟩
  unfold cellV ptrV
  rw [if_pos hv, hx]; rfl
set_option maxHeartbeats 400000 in
theorem Hp.has (h : Hp w g vr mb S m) (K N : Int) (h0 : -9223372036854775808 ≤ N) (h1 : N ≤ 9223372036854775807) : Calls Try.prog 45 #[.pointer (some ⟨g, 0, none⟩), .agg #[.int .i64 K, .int .i64 N]] w fun e w' => e = .returned (.bool (hasP m.L (K, N))) ∧ Below w.heap.size w w' := by
  have HC : Hid (∀ w1, Below w.heap.size w w1 → Calls Try.prog 58 #[.pointer (some ⟨g, 0, none⟩), .agg #[.int .i64 K, .int .i64 N]] w1 fun e w' => e = .returned (cellV S m.L (K, N)) ∧ Below w1.heap.size w1 w') := Lib.hid fun w1 hb => (h.below hb).cell K N h0 h1
  cases hv : hasP m.L (K, N) with
  | false =>
    rw [cellV_nil _ _ _ hv] at HC
    clear h hv
    go_enter Try.func45, Try.ntmps45
    go_wp2_with (go_at_call 58; with_reducible refine (HC.out _ ((Below.refl _ _).alloc (Nat.le_refl _) _)).mono ?_; rintro e w1 ⟨rfl, hb⟩)
    go_ret
    exact ⟨rfl, ((Below.refl _ _).alloc (Nat.le_refl _) _).trans (hb.mono (by simp))⟩
  | true =>
    obtain ⟨_, _, c, hc⟩ := hasP_iff.1 hv
    obtain ⟨x, hx, _, e⟩ := h.cellV_some hv hc
    rw [e] at HC
    clear h hv e
    go_enter Try.func45, Try.ntmps45
    go_wp2_with (go_at_call 58; with_reducible refine (HC.out _ ((Below.refl _ _).alloc (Nat.le_refl _) _)).mono ?_; rintro e w1 ⟨rfl, hb⟩)
    go_ret
    exact ⟨rfl, ((Below.refl _ _).alloc (Nat.le_refl _) _).trans (hb.mono (by simp))⟩
set_option maxHeartbeats 800000 in
theorem Hp.mayVal (h : Hp w g vr mb S m) (K N : Int) (h0 : -9223372036854775808 ≤ N) (h1 : N ≤ 9223372036854775807) : Calls Try.prog 42 #[.pointer (some ⟨g, 0, none⟩), .agg #[.int .i64 K, .int .i64 N]] w fun e w' => e = .returned (.bool (mayV m.L (K, N))) ∧ Below w.heap.size w w' := by
  by_cases hK : K = 8
  · subst hK
    have HC : Hid (∀ w1, Below w.heap.size w w1 → Calls Try.prog 45 #[.pointer (some ⟨g, 0, none⟩), .agg #[.int .i64 8, .int .i64 N]] w1 fun e w' => e = .returned (.bool (hasP m.L (8, N))) ∧ Below w1.heap.size w1 w') := Lib.hid fun w1 hb => (h.below hb).has 8 N h0 h1
    have HV : Hid (mayV m.L (8, N) = hasP m.L (8, N)) := Lib.hid (if_pos rfl)
    rw [HV.out]
    generalize hasP m.L (8, N) = bb at *
    clear h HV
    go_enter Try.func42, Try.ntmps42
    go_wp2_with (go_at_call 45; with_reducible refine (HC.out _ ((Below.refl _ _).alloc (Nat.le_refl _) _)).mono ?_; rintro e w1 ⟨rfl, hb⟩)
    go_ret
    exact ⟨rfl, ((Below.refl _ _).alloc (Nat.le_refl _) _).trans (hb.mono (by simp))⟩
  · have hd : (K == 8) = false := by simp [hK]
    have HV : Hid (mayV m.L (K, N) = decide (0 ≤ K ∧ K < 9)) := Lib.hid (if_neg hK)
    rw [HV.out]
    clear h HV
    by_cases h2 : 0 ≤ K
    · have hd1 : decide (0 ≤ K) = true := decide_eq_true h2
      have e : decide (0 ≤ K ∧ K < 9) = decide (K < 9) := by simp [h2]
      rw [e]
      go_enter Try.func42, Try.ntmps42
      go_wp2_with fail
      go_ret
      exact ⟨rfl, (Below.refl _ _).alloc (Nat.le_refl _) _⟩
    · have hd1 : decide (0 ≤ K) = false := decide_eq_false h2
      have e : decide (0 ≤ K ∧ K < 9) = false := by simp [h2]
      rw [e]
      go_enter Try.func42, Try.ntmps42
      go_wp2_with fail
      go_ret
      exact ⟨rfl, (Below.refl _ _).alloc (Nat.le_refl _) _⟩
end
end Go.Proofs.Ytekmboolfjicbaa
