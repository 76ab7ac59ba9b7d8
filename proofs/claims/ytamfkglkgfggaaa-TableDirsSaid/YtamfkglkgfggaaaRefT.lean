/- The document's own: a page's four bytes, a leaf's bytes, the number of four bytes. -/
import Derived.Test.YtamfkglkgfggaaaLaw
import Derived.Test.YtamfkglkgfggaaaRef3
import Derived.Test.YtamfkglkgfggaaaRef4
set_option linter.unusedSimpArgs false
namespace Go.Proofs.Ytamfkglkgfggaaa
open Go.RowKit

set_option maxRecDepth 100000 in
set_option maxHeartbeats 800000 in
theorem four_any (v : Nat) (w : World) (hv : v < 512) : Calls Try.prog 36 #[.int .i64 (v : Int)] w fun e w' => e = .returned (.string (strB (four v))) ∧ Below w.heap.size w w' := by
  obtain ⟨q, hq⟩ : ∃ q, Hid (v / 256 = q) := ⟨_, Lib.hid rfl⟩
  obtain ⟨r, hr⟩ : ∃ r, Hid (v % 256 = r) := ⟨_, Lib.hid rfl⟩
  have d1 : (v : Int) / 16777216 = 0 := by omega
  have d2 : (v : Int) / 65536 = 0 := by omega
  have d3 : (v : Int) / 256 = (q : Int) := by have := hq.out; omega
  have d4 : (v : Int) % 256 = (r : Int) := by have := hr.out; omega
  have t1 : Int.tdiv (v : Int) 16777216 = 0 := by rw [Int.tdiv_eq_ediv_of_nonneg (by omega)]; exact d1
  have t2 : Int.tdiv (v : Int) 65536 = 0 := by rw [Int.tdiv_eq_ediv_of_nonneg (by omega)]; exact d2
  have t3 : Int.tdiv (v : Int) 256 = (q : Int) := by rw [Int.tdiv_eq_ediv_of_nonneg (by omega)]; exact d3
  have t4 : Int.tmod (v : Int) 256 = (r : Int) := by rw [Int.tmod_eq_emod_of_nonneg (by omega)]; exact d4
  have t5 : Int.tmod (q : Int) 256 = (q : Int) := by rw [Int.tmod_eq_emod_of_nonneg (by omega)]; have := hq.out; omega
  have t6 : Int.tmod (0 : Int) 256 = 0 := rfl
  have d5 : (q : Int) < 256 := by have := hq.out; omega
  have d6 : (r : Int) < 256 := by have := hr.out; omega
  have d7 : (q : Int) % 256 = (q : Int) := by omega
  have d8 : (r : Int) % 256 = (r : Int) := by omega
  have hvz : (v : Int) < 512 := by omega
  have hvz0 : (0 : Int) ≤ (v : Int) := by omega
  have HF : Hid (four v = [0, 0, q, r]) := Lib.hid (by unfold four; rw [hq.out, hr.out])
  have hT : Bys (w.alloc (.cells #[.int .u8 0, .int .u8 0, .int .u8 (q : Int), .int .u8 (r : Int)] 5)) (some ⟨w.heap.size, 0, none⟩) 4 [0, 0, q, r] :=
    ⟨rfl, by intro x hx; simp at hx; rcases hx with rfl | rfl | rfl <;> omega, fun _ => ⟨w.heap.size, 0, rfl, fun j hj => by
      rw [cell_of_row _ _ _ _ _ _ (heap_alloc_new w _)]
      rcases (show j = 0 ∨ j = 1 ∨ j = 2 ∨ j = 3 by omega) with rfl | rfl | rfl | rfl <;> rfl⟩⟩
  have hc := hT.conv 4
  have HB : Hid (Below w.heap.size w (w.alloc (.cells #[.int .u8 0, .int .u8 0, .int .u8 (q : Int), .int .u8 (r : Int)] 5))) := Lib.hid ((Below.refl _ _).alloc (Nat.le_refl _) _)
  rw [HF.out]
  clear hT hv
  generalize strB [0, 0, q, r] = Y at *
  go_enter Try.func36, Try.ntmps36
  go_wp2_with fail
  go_ret
  exact ⟨rfl, HB.out⟩
set_option maxRecDepth 100000 in
set_option maxHeartbeats 1600000 in
theorem rleaf_any (f : Nat → Nat) (i : Nat) (w : World) (hf : Ok f) (hi : i < 4) : Calls Try.prog 14 #[.agg (rowA f 512), .int .i64 (i : Int)] w fun e w' => e = .returned (.string (strB (fours (leafF f i) 128))) ∧ Below w.heap.size w w' := by
  have HI : Hid (IsT (w.alloc (.cells (rowA f 512) 25)) w.heap.size 25 f 512) := Lib.hid (heap_alloc_new w _)
  have HB : Hid (Below w.heap.size w (w.alloc (.cells (rowA f 512) 25))) := Lib.hid ((Below.refl _ _).alloc (Nat.le_refl _) _)
  have HE : Hid (strB (fours (leafF f i) 0) = (⟨#[]⟩ : ByteArray)) := Lib.hid rfl
  have HF := Lib.hid hf
  have hiz : (i : Int) < 4 := by omega
  have HLT := Lib.hid hi
  clear hf hi
  generalize rowA f 512 = Z at *
  generalize hW : w.alloc (.cells Z 25) = W at *
  have HW := Lib.hid hW
  clear hW
  go_enter Try.func14, Try.ntmps14
  go_upto_region 1 with fail
  rw [HW.out]
  go_wp2_with fail
  go_loopw [6, 5] (fun kv sv wr => ∃ k : Nat, k ≤ 128 ∧ kv = .int .i64 (k : Int) ∧ sv = .string (strB (fours (leafF f i) k)) ∧ Below W.heap.size W wr) (fun kv _ _ => 128 - (intOf kv).toNat)
  case atStart => exact ⟨0, by omega, by go_num, by rw [HE.out], Below.refl _ _⟩
  case round =>
    obtain ⟨k, hk, rfl, rfl, hb⟩ := hrel
    have HBR := Lib.hid hb
    by_cases hlt : k < 128
    · have hd : decide ((k : Int) < 128) = true := decide_eq_true (by omega)
      have hc := (HI.out.below hb).cell (128 * i + k) (by have := HLT.out; omega)
      have hz1 : (k : Int) < 128 := by omega
      have HL := Lib.hid hlt
      have hix : (128 * (i : Int) + (k : Int)).toNat = 128 * i + k := by omega
      have hz2 : 128 * (i : Int) + (k : Int) < 512 := by omega
      have hz3 : (0 : Int) ≤ 128 * (i : Int) + (k : Int) := by omega
      have HV : Hid (leafF f i k = f (128 * i + k)) := Lib.hid rfl
      have HO := Lib.hid (HF.out.lt (128 * i + k))
      have HA : Hid (strB (fours (leafF f i) k) ++ strB (four (f (128 * i + k))) = strB (fours (leafF f i) (k + 1))) := Lib.hid (by rw [← strB_app]; rfl)
      have hsz : ¬ 9223372036854775807 < (strB (fours (leafF f i) k)).size + (strB (four (f (128 * i + k)))).size := by
        rw [strB_size, strB_size, fours_len]; show ¬ _ < 4 * k + 4; omega
      have H4 : Hid (∀ w', Calls Try.prog 36 #[.int .i64 ((f (128 * i + k) : Nat) : Int)] w' fun e w'' => e = .returned (.string (strB (four (f (128 * i + k))))) ∧ Below w'.heap.size w' w'') := Lib.hid fun w' => four_any _ w' HO.out
      clear hlt hk hb
      generalize hS : strB (fours (leafF f i) k) = S at *
      have HS := Lib.hid hS
      generalize strB (four (f (128 * i + k))) = Y at *
      generalize f (128 * i + k) = v at *
      clear hS
      go_wp2_with (go_at_call 36; refine (H4.out _).mono ?_; rintro e w7 ⟨rfl, hb7⟩)
      go_roundw
      case rel => exact ⟨k + 1, by have := HL.out; omega, by go_num, by rw [← HA.out], HBR.out.trans (hb7.mono HBR.out.size)⟩
      case measure => have := HL.out; simp [intOf]; omega
    · have hd : decide ((k : Int) < 128) = false := decide_eq_false (by omega)
      have HK : Hid (k = 128) := Lib.hid (by omega)
      clear hlt hk hb
      go_wp2_with fail
      go_ret
      exact ⟨by rw [HK.out]; rfl, HB.out.trans (HBR.out.mono HB.out.size)⟩
end Go.Proofs.Ytamfkglkgfggaaa
