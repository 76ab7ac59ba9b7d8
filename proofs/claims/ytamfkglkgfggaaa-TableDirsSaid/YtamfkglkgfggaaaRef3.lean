/- The document's bytes of a row. -/
import Derived.Test.YtamfkglkgfggaaaRef1
namespace Go.Proofs.Ytamfkglkgfggaaa
open Go.RowKit

theorem rowF_succ (f : Nat → Bool) (q : Nat) : rowF f (q + 1) = rowF f q ++ [byt f q] := by unfold rowF; rw [List.range_succ, List.map_append]; rfl
theorem strB_app (a b : List Nat) : strB (a ++ b) = strB a ++ strB b := by
  unfold strB
  apply ByteArray.ext
  rw [ByteArray.data_append]
  simp [strOfNums]
theorem strB_size (a : List Nat) : (strB a).size = a.length := by unfold strB; rw [strOfNums_size, List.length_map]
theorem bsum_succ (f : Nat → Bool) (a k : Nat) : bsum f a (k + 1) = 2 ^ k * (f (a + k)).toNat + bsum f a k := rfl
/-- No more truths: nothing more is added. -/
theorem bsum_end {f : Nat → Bool} {n a k : Nat} (hs : Sub n f) (h : n ≤ a + k) (hk : k ≤ 8) : bsum f a k = bsum f a 8 := by
  have : ∀ d, k + d ≤ 8 → bsum f a (k + d) = bsum f a k := by
    intro d
    induction d with
    | zero => intro _; rfl
    | succ d ih =>
      intro hd
      rw [← Nat.add_assoc, bsum_succ, hs (a + (k + d)) (by omega), ih (by omega)]
      simp
  have h2 := this (8 - k) (by omega)
  rw [show k + (8 - k) = 8 by omega] at h2
  exact h2.symm
theorem pow_le8 {k : Nat} (h : k ≤ 8) : 2 ^ k ≤ 256 := Nat.pow_le_pow_right (n := 2) (by decide) h
set_option maxRecDepth 20000 in
set_option maxHeartbeats 1600000 in
theorem rbytes_any (p : Option Addr) (n c : Nat) (f : Nat → Bool) (w : World) (hn : n ≤ 4096) (hs : Sub n f) (hB : Bls w p n f) :
    Calls Try.prog 27 #[.slice p n c] w fun e w' => e = .returned (.string (strB (rowF f (need n)))) ∧ Below w.heap.size w w' := by
  have HB := Lib.hid hB
  have HN := Lib.hid hn
  have HSub := Lib.hid hs
  have HE : Hid (strB (rowF f 0) = (⟨#[]⟩ : ByteArray)) := Lib.hid rfl
  clear hB hn hs
  go_enter Try.func27, Try.ntmps27
  go_wp2_with fail
  go_loopw [4, 3, 5, 6, 7] (fun iv sv _ _ _ wr => ∃ (q i : Nat), Hid (i = 8 * q) ∧ q ≤ need n ∧ iv = .int .i64 (i : Int) ∧ sv = .string (strB (rowF f q)) ∧ Below w.heap.size w wr) (fun iv _ _ _ _ _ => n + 8 - (intOf iv).toNat)
  case atStart => exact ⟨0, 0, Lib.hid rfl, by omega, by go_num, by rw [HE.out], Below.refl _ _⟩
  case round =>
    obtain ⟨q, i, HI, hq, rfl, rfl, hbw⟩ := hrel
    have HBW := Lib.hid hbw
    have hz1 : (i : Int) ≤ 5000 := by have := HN.out; have := HI.out; unfold need at hq; omega
    have HQ := Lib.hid hq
    clear hbw hq
    by_cases hlt : i < n
    · have hd : decide ((i : Int) < (n : Int)) = true := decide_eq_true (by omega)
      have HE0 : Hid (bsum f i 0 = 0) := Lib.hid rfl
      have HBR := Lib.hid (HB.out.below HBW.out)
      obtain ⟨S, HS⟩ : ∃ S, Hid (strB (rowF f q) = S) := ⟨_, Lib.hid rfl⟩
      rw [HS.out]
      go_wp2_with fail
      go_loop [7, 5, 6] (fun kv cv uv => ∃ r : Nat, r ≤ 8 ∧ (r = 0 ∨ i + r ≤ n) ∧ kv = .int .i64 ((i : Int) + (r : Int)) ∧ cv = .int .i64 (bsum f i r : Int) ∧ uv = .int .i64 ((2 ^ r : Nat) : Int)) (fun kv _ _ => n - (intOf kv).toNat)
      case atStart => exact ⟨0, by omega, .inl rfl, by go_num, by rw [HE0.out]; rfl, rfl⟩
      case round =>
        obtain ⟨r, hr, hr2, rfl, rfl, rfl⟩ := hrel
        have hbl := bsum_lt f i r
        have hpl := pow_le8 hr
        have hp0 : 0 < 2 ^ r := Nat.pow_pos (by decide)
        by_cases h8 : r < 8 ∧ i + r < n
        · obtain ⟨b, o, rfl, hc⟩ := HBR.out.at (by omega)
          have hcell := hc (i + r) h8.2
          have hd1 : decide ((i : Int) + (r : Int) < (i : Int) + 8) = true := decide_eq_true (by omega)
          have hd3 : decide ((r : Int) < 8) = true := decide_eq_true (by omega)
          have hd4 : decide (r < 8) = true := decide_eq_true (by omega)
          have hd2 : decide ((i : Int) + (r : Int) < (n : Int)) = true := decide_eq_true (by omega)
          have hz2 : (r : Int) ≤ 8 := by omega
          have hix : ((i : Int) + (r : Int)).toNat = i + r := by omega
          have hz3 : (i : Int) + (r : Int) < (n : Int) := by omega
          have hz4 : (0 : Int) ≤ (i : Int) + (r : Int) := by omega
          have H8 := Lib.hid h8
          have HPS : Hid (2 ^ (r + 1) = 2 ^ r * 2) := Lib.hid (Nat.pow_succ 2 r)
          have HBS : Hid (bsum f i (r + 1) = 2 ^ r * (f (i + r)).toNat + bsum f i r) := Lib.hid rfl
          have hz5 : ((2 ^ r : Nat) : Int) ≤ 256 := by omega
          have hz6 : ((bsum f i r : Nat) : Int) ≤ 256 := by omega
          clear hc h8 hbl hpl hr hr2 hp0
          generalize bsum f i r = k0 at *
          generalize 2 ^ r = P at *
          cases hf : f (i + r) with
          | true =>
            rw [hf] at hcell HBS
            go_wp2_with fail
            go_round
            case rel => exact ⟨r + 1, by have := H8.out; omega, .inr (by have := H8.out; omega), by go_num, by rw [HBS.out]; simp; omega, by rw [HPS.out]; simp⟩
            case measure => have := H8.out; simp [intOf]; omega
          | false =>
            rw [hf] at hcell HBS
            go_wp2_with fail
            go_round
            case rel => exact ⟨r + 1, by have := H8.out; omega, .inr (by have := H8.out; omega), by go_num, by rw [HBS.out]; simp, by rw [HPS.out]; simp⟩
            case measure => have := H8.out; simp [intOf]; omega
        · have HB8 : Hid (bsum f i r = byt f q) := Lib.hid (by
            unfold byt
            rw [← HI.out]
            by_cases h9 : r = 8
            · rw [h9]
            · exact bsum_end HSub.out (by omega) hr)
          rw [HB8.out]
          have HY := Lib.hid (byt_lt f q)
          have hy1 : (byt f q : Int) % 256 = (byt f q : Int) := by have := HY.out; omega
          have hT : Bys (wr.alloc (.cells #[.int .u8 (byt f q : Int)] 5)) (some ⟨wr.heap.size, 0, none⟩) 1 [byt f q] :=
            ⟨rfl, by intro x hx; simp at hx; subst hx; exact HY.out, fun _ => ⟨wr.heap.size, 0, rfl, fun j hj => by
              obtain rfl : j = 0 := by omega
              exact World.cell?_alloc_new wr _ _ 0⟩⟩
          have hc2 := hT.conv 1
          have HA : Hid (S ++ strB [byt f q] = strB (rowF f (q + 1))) := Lib.hid (by rw [← HS.out, rowF_succ, strB_app])
          have hsz : ¬ 9223372036854775807 < S.size + (strB [byt f q]).size := by
            rw [← HS.out, strB_size, strB_size, rowF_len]; have := HN.out; have := HQ.out; unfold need at this; simp; omega
          have hz2 : (r : Int) ≤ 8 := by omega
          have HZW := Lib.hid (HBW.out.alloc HBW.out.size (.cells #[.int .u8 (byt f q : Int)] 5))
          clear hT hbl hpl hp0
          by_cases h9 : r = 8
          · have hd1 : decide ((i : Int) + (r : Int) < (i : Int) + 8) = false := decide_eq_false (by omega)
            have hd3 : decide ((r : Int) < 8) = false := decide_eq_false (by omega)
            have hd4 : decide (r < 8) = false := decide_eq_false (by omega)
            generalize byt f q = y at *
            generalize strB [y] = Y at *
            clear h8 hr hr2 h9
            go_wp2_with fail
            go_roundw
            case rel => exact ⟨q + 1, i + 8, Lib.hid (by have := HI.out; omega), by have := HI.out; unfold need; omega, by go_num, by rw [← HA.out], HZW.out⟩
            case measure => simp [intOf]; omega
          · have hd1 : decide ((i : Int) + (r : Int) < (i : Int) + 8) = true := decide_eq_true (by omega)
            have hd3 : decide ((r : Int) < 8) = true := decide_eq_true (by omega)
            have hd4 : decide (r < 8) = true := decide_eq_true (by omega)
            have hd2 : decide ((i : Int) + (r : Int) < (n : Int)) = false := decide_eq_false (by omega)
            generalize byt f q = y at *
            generalize strB [y] = Y at *
            clear h8 hr hr2 h9
            go_wp2_with fail
            go_roundw
            case rel => exact ⟨q + 1, i + 8, Lib.hid (by have := HI.out; omega), by have := HI.out; unfold need; omega, by go_num, by rw [← HA.out], HZW.out⟩
            case measure => simp [intOf]; omega
    · have HQ : Hid (q = need n) := Lib.hid (by have := HQ.out; have := HI.out; unfold need at *; omega)
      have hd : decide ((i : Int) < (n : Int)) = false := decide_eq_false (by omega)
      have hdn : decide (i < n) = false := decide_eq_false hlt
      go_wp2_with fail
      go_ret
      exact ⟨by rw [HQ.out]; rfl, HBW.out⟩
end Go.Proofs.Ytamfkglkgfggaaa
