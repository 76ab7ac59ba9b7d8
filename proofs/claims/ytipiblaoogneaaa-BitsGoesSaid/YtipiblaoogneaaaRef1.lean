/- A row of truths in memory; how many are true, and the least one from some on. -/
import Derived.Test.YtipiblaoogneaaaClone
namespace Go.Proofs.Ytipiblaoogneaaa
open Go.RowKit

/-- A slice of truths that reads as these. -/
structure Bls (w : World) (p : Option Addr) (n : Nat) (f : Nat → Bool) : Prop where
  inn : 0 < n → ∃ b o, p = some ⟨b, o, none⟩ ∧ ∀ i, i < n → w.cell? ⟨b, o + i, none⟩ = some (.bool (f i))
theorem Bls.at {w : World} {p : Option Addr} {n : Nat} {f : Nat → Bool} (h : Bls w p n f) (hn : 0 < n) : ∃ b o, p = some ⟨b, o, none⟩ ∧ ∀ i, i < n → w.cell? ⟨b, o + i, none⟩ = some (.bool (f i)) := h.inn hn
theorem Bls.keep {w w' : World} {p : Option Addr} {n : Nat} {f : Nat → Bool} (h : Bls w p n f) (hb : ∀ k, k < w.heap.size → (∀ b o, p = some ⟨b, o, none⟩ → k = b → w'.heap[k]? = w.heap[k]?)) : Bls w' p n f :=
  ⟨fun hn => by
    obtain ⟨b, o, e, hc⟩ := h.inn hn
    have hlt := World.block_lt_of_cell? w _ (hc 0 hn)
    exact ⟨b, o, e, fun i hi => (World.cell?_of_block (w := w) (hb b hlt b o e rfl)).trans (hc i hi)⟩⟩
theorem Bls.below {w w' : World} {p : Option Addr} {n : Nat} {f : Nat → Bool} (h : Bls w p n f) (hb : Below w.heap.size w w') : Bls w' p n f := h.keep fun k hk _ _ _ _ => hb.block k hk
/-- A row of truths that doesn't lie in a block stays while that one is written. -/
theorem Bls.only {w w' : World} {p : Option Addr} {n g : Nat} {f : Nat → Bool} (h : Bls w p n f) (hk : Only g w w') (hp : ∀ b o, p = some ⟨b, o, none⟩ → b ≠ g) : Bls w' p n f :=
  h.keep fun k hk2 b o e hkb => hk.block k hk2 (by rw [hkb]; exact hp b o e)
theorem Bls.zero (w : World) (p : Option Addr) (f : Nat → Bool) : Bls w p 0 f := ⟨fun h => absurd h (Nat.lt_irrefl 0)⟩
theorem few_any (x : Int) (w : World) : Calls Try.prog 9 #[.int .i64 x] w fun e w' => e = .returned (.bool (decide (x ≤ 200))) ∧ w = w' := by
  go_enter Try.func9, Try.ntmps9
  go_wp2_with fail
  go_ret
  exact ⟨rfl, rfl⟩
set_option maxHeartbeats 800000 in
theorem rcount_any (p : Option Addr) (n c : Nat) (f : Nat → Bool) (w : World) (hn : n ≤ 1099511627776) (hB : Bls w p n f) :
    Calls Try.prog 32 #[.slice p n c] w fun e w' => e = .returned (.int .i64 (cnt f n : Int)) ∧ w = w' := by
  have HB := Lib.hid hB
  have HN := Lib.hid hn
  clear hB hn
  go_enter Try.func32, Try.ntmps32
  go_wp2_with fail
  go_loop [4, 3] (fun iv cv => ∃ i : Nat, i ≤ n ∧ iv = .int .i64 (i : Int) ∧ cv = .int .i64 (cnt f i : Int)) (fun iv _ => n - (intOf iv).toNat)
  case atStart => exact ⟨0, by omega, by go_num, rfl⟩
  case round =>
    obtain ⟨i, hi, rfl, rfl⟩ := hrel
    by_cases hlt : i < n
    · obtain ⟨b, o, rfl, hc⟩ := HB.out.at (by omega)
      have hcell := hc i hlt
      have hcl := cnt_le f i
      have hz1 : (i : Int) ≤ 1099511627776 := by have := HN.out; omega
      have hz2 : (cnt f i : Int) ≤ 1099511627776 := by have := HN.out; omega
      have HC : Hid (cnt f (i + 1) = cnt f i + (f i).toNat) := Lib.hid rfl
      clear hc hcl
      cases hf : f i with
      | true =>
        rw [hf] at hcell HC
        generalize cnt f i = k at *
        go_wp2_with fail
        go_round
        case rel => exact ⟨i + 1, by omega, by go_num, by rw [HC.out]; go_num⟩
        case measure => simp [intOf]; omega
      | false =>
        rw [hf] at hcell HC
        generalize cnt f i = k at *
        go_wp2_with fail
        go_round
        case rel => exact ⟨i + 1, by omega, by go_num, by rw [HC.out]; rfl⟩
        case measure => simp [intOf]; omega
    · obtain rfl : i = n := by omega
      go_wp2_with fail
      go_ret
      exact ⟨rfl, rfl⟩
set_option maxHeartbeats 800000 in
theorem find_any (p : Option Addr) (n c : Nat) (f : Nat → Bool) (x : Int) (t : Bool) (w : World) (hn : n ≤ 1099511627776) (hx : x ≤ 9223372036854775807) (hB : Bls w p n f) :
    Calls Try.prog 34 #[.slice p n c, .int .i64 x, .bool (!t)] w fun e w' => e = .returned (.int .i64 (num (nxt (sook f t) n x.toNat))) ∧ w = w' := by
  have HB := Lib.hid hB
  have HN := Lib.hid hn
  obtain ⟨s, hs⟩ : ∃ s, x.toNat = s := ⟨_, rfl⟩
  have HM : Hid ((decide (x < 0) = true → s = 0) ∧ (decide (x < 0) = false → x = (s : Int))) := Lib.hid ⟨fun h => by have := of_decide_eq_true h; omega, fun h => by have := of_decide_eq_false h; omega⟩
  rw [hs]
  clear hB hn hs
  go_enter Try.func34, Try.ntmps34
  go_upto_if 8 with fail
  go_cut [1] (fun v wx => v = .int .i64 (s : Int) ∧ wx = w)
  case first =>
    by_cases h0 : x < 0
    · have hd : decide (x < 0) = true := decide_eq_true h0
      go_wp2_with fail
      go_meet
      exact ⟨by rw [HM.out.1 hd]; rfl, rfl⟩
    · have hd : decide (x < 0) = false := decide_eq_false h0
      go_wp2_with fail
      go_meet
      exact ⟨by rw [← HM.out.2 hd], rfl⟩
  case rest =>
    obtain ⟨rfl, rfl⟩ := hcut
    clear HM hx
    go_wp2_with fail
    go_loop [1] (fun iv => ∃ i : Nat, s ≤ i ∧ (i = s ∨ i ≤ n) ∧ iv = .int .i64 (i : Int) ∧ Hid (∀ y, s ≤ y → y < i → sook f t y = false)) (fun iv => n - (intOf iv).toNat)
    case atStart => exact ⟨s, Nat.le_refl _, .inl rfl, by go_num, Lib.hid (fun y h1 h2 => by omega)⟩
    case round =>
      obtain ⟨i, hsi, hi2, rfl, HS⟩ := hrel
      by_cases hlt : i < n
      · obtain ⟨b, o, rfl, hc⟩ := HB.out.at (by omega)
        have hcell := hc i hlt
        have hz1 : (i : Int) ≤ 1099511627776 := by have := HN.out; omega
        clear hc
        by_cases hf : sook f t i = true
        · have HR : Hid (nxt (sook f t) n s = some i) := Lib.hid (nxt_some hsi hlt hf HS.out)
          have he : (f i == !t) = true := by unfold sook at hf; revert hf; cases f i <;> cases t <;> simp
          generalize f i = y at *
          clear hf
          go_wp2_with fail
          go_ret
          exact ⟨by rw [HR.out]; rfl, rfl⟩
        · have hf' : sook f t i = false := by simpa using hf
          have he : (f i == !t) = false := by unfold sook at hf'; revert hf'; cases f i <;> cases t <;> simp
          have HF := Lib.hid hf'
          generalize f i = y at *
          clear hf hf'
          go_wp2_with fail
          go_round
          case rel => exact ⟨i + 1, by omega, .inr (by omega), by go_num, Lib.hid (fun y h1 h2 => by
            by_cases hy : y = i
            · rw [hy]; exact HF.out
            · exact HS.out y h1 (by omega))⟩
          case measure => simp [intOf]; omega
      · have HR : Hid (nxt (sook f t) n s = none) := Lib.hid (nxt_none fun y h1 h2 => HS.out y h1 (by omega))
        go_wp2_with fail
        go_ret
        exact ⟨by rw [HR.out]; rfl, rfl⟩
end Go.Proofs.Ytipiblaoogneaaa
