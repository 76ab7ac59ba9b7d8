/- What the document's own Encode returns. -/
import Derived.Test.YtamfkglkgfggaaaEnc
set_option linter.unusedSimpArgs false
namespace Go.Proofs.Ytamfkglkgfggaaa
open Go.RowKit

def fourI (x y z u : Int) : Nat → Int
  | 0 => x
  | 1 => y
  | 2 => z
  | _ => u
/-- What it returns. -/
def rencV (x y z u : Int) (f : Nat → Bool) : Value := if okL x y z u = true then .tuple #[.string (strB (dirB x y z u f)), .int .i64 0] else .tuple #[.string ⟨#[]⟩, .int .i64 1]
set_option maxRecDepth 100000 in
set_option maxHeartbeats 3200000 in
theorem renc_any (x y z u : Int) (p : Option Addr) (c : Nat) (f : Nat → Bool) (w : World) (hs : Sub 512 f) (hB : Bls w p 512 f) :
    Calls Try.prog 23 #[.agg #[.int .i64 x, .int .i64 y, .int .i64 z, .int .i64 u], .slice p 512 c] w fun e w' => e = .returned (rencV x y z u f) ∧ Below w.heap.size w w' := by
  have HB0 : Hid (Below w.heap.size w (w.alloc (.cells #[.int .i64 x, .int .i64 y, .int .i64 z, .int .i64 u] 48))) := Lib.hid ((Below.refl _ _).alloc (Nat.le_refl _) _)
  have HDB := heap_alloc_new w (.cells #[.int .i64 x, .int .i64 y, .int .i64 z, .int .i64 u] 48)
  have HKC : Hid (∀ wr, Below (w.alloc (.cells #[.int .i64 x, .int .i64 y, .int .i64 z, .int .i64 u] 48)).heap.size (w.alloc (.cells #[.int .i64 x, .int .i64 y, .int .i64 z, .int .i64 u] 48)) wr → ∀ k v, k < 4 → fourI x y z u k = v → wr.cell? ⟨w.heap.size, k, none⟩ = some (.int .i64 v)) := Lib.hid fun wr hb k v hk hv => by
    subst hv
    refine (hb.cell (p := ⟨w.heap.size, k, none⟩) (by simp)).trans ?_
    rw [cell_of_row _ _ _ _ _ _ HDB]
    rcases (show k = 0 ∨ k = 1 ∨ k = 2 ∨ k = 3 by omega) with rfl | rfl | rfl | rfl <;> rfl
  have HBL := Lib.hid (hB.below HB0.out)
  have HSub := Lib.hid hs
  have HE : Hid (strB (fours (lvF x y z u) 0) = (⟨#[]⟩ : ByteArray)) := Lib.hid rfl
  clear HDB hB hs
  go_enter Try.func23, Try.ntmps23
  go_upto_region 1 with fail
  generalize w.alloc _ = W at *
  go_wp2_with fail
  go_loopw [7, 6] (fun iv sv wr => ∃ i : Nat, i ≤ 4 ∧ iv = .int .i64 (i : Int) ∧ sv = .string (strB (fours (lvF x y z u) i)) ∧ (∀ j, j < i → okN x y z u j = true) ∧ Below W.heap.size W wr) (fun iv _ _ => 4 - (intOf iv).toNat)
  case atStart => exact ⟨0, by omega, by go_num, by rw [HE.out], fun j hj => absurd hj (Nat.not_lt_zero j), Below.refl _ _⟩
  case round =>
    obtain ⟨i, hi, rfl, rfl, hok, hbr⟩ := hrel
    have HBR := Lib.hid hbr
    clear hbr
    rcases (show i = 0 ∨ i = 1 ∨ i = 2 ∨ i = 3 ∨ i = 4 by omega) with rfl | rfl | rfl | rfl | rfl
    · have hd : decide ((0 : Int) < 4) = true := rfl
      have hcell := HKC.out wr HBR.out 0 x (by omega) rfl
      have HPG := Lib.hid (rpage_any x)
      cases hm : mayI x with
      | false =>
        have HO : Hid (rencV x y z u f = .tuple #[.string ⟨#[]⟩, .int .i64 1]) := Lib.hid (by unfold rencV okL; rw [hm]; simp)
        have hg : (x != 0) = true ∧ pgI x = false := by
          unfold mayI at hm
          simp only [Bool.or_eq_false_iff] at hm
          exact ⟨by unfold bne; rw [hm.1]; rfl, hm.2⟩
        have hg1 := hg.1
        rw [hg.2] at HPG
        clear hm hg hok
        go_wp2_with (go_at_call 38; refine (HPG.out _).mono ?_; rintro e w7 ⟨rfl, rfl⟩)
        go_ret2
        exact ⟨by rw [HO.out]; rfl, HB0.out.trans (HBR.out.mono HB0.out.size)⟩
      | true =>
        have HX := Lib.hid (mayI_nn hm)
        have H4 : Hid (∀ w', Calls Try.prog 36 #[.int .i64 x] w' fun e w'' => e = .returned (.string (strB (four (lvF x y z u 0)))) ∧ Below w'.heap.size w' w'') := Lib.hid fun w' => by
          have := four_any x.toNat w' (by have := HX.out; omega)
          rwa [Int.toNat_of_nonneg HX.out.1] at this
        have HO : Hid (∀ j, j < 1 → okN x y z u j = true) := Lib.hid fun j hj => by
          by_cases e : j = 0
          · subst e; exact hm
          · exact hok j (by omega)
        have HA : Hid (strB (fours (lvF x y z u) 0) ++ strB (four (lvF x y z u 0)) = strB (fours (lvF x y z u) 1)) := Lib.hid (by rw [← strB_app]; rfl)
        have hsz : ¬ 9223372036854775807 < (strB (fours (lvF x y z u) 0)).size + (strB (four (lvF x y z u 0))).size := by
          rw [strB_size, strB_size, fours_len]; show ¬ _ < 4 * 0 + 4; omega
        have HG : Hid (x = 0 ∨ ((x != 0) = true ∧ pgI x = true)) := Lib.hid (by
          by_cases h0 : x = 0
          · exact .inl h0
          · refine .inr ⟨by simpa using h0, ?_⟩
            unfold mayI at hm
            simpa [h0] using hm)
        clear hm hok
        generalize hS : strB (fours (lvF x y z u) 0) = S at *
        generalize strB (four (lvF x y z u 0)) = Y at *
        have HS2 := Lib.hid hS
        clear hS
        rcases HG.out with h0 | ⟨h1, h2⟩
        · have hb0 : (x != 0) = false := by simp [h0]
          clear h0 HG
          go_wp2_with (go_at_call 36; refine (H4.out _).mono ?_; rintro e w7 ⟨rfl, hb7⟩)
          go_roundw
          case rel => exact ⟨1, by omega, by go_num, by rw [← HA.out], HO.out, HBR.out.trans (hb7.mono HBR.out.size)⟩
          case measure => simp [intOf]
        · rw [h2] at HPG
          clear h2 HG
          go_wp2_with (first
            | (go_at_call 38; refine (HPG.out _).mono ?_; rintro e w7 ⟨rfl, rfl⟩)
            | (go_at_call 36; refine (H4.out _).mono ?_; rintro e w7 ⟨rfl, hb7⟩))
          go_roundw
          case rel => exact ⟨1, by omega, by go_num, by rw [← HA.out], HO.out, HBR.out.trans (hb7.mono HBR.out.size)⟩
          case measure => simp [intOf]
    · have hd : decide ((1 : Int) < 4) = true := rfl
      have hcell := HKC.out wr HBR.out 1 y (by omega) rfl
      have HPG := Lib.hid (rpage_any y)
      cases hm : mayI y with
      | false =>
        have HO : Hid (rencV x y z u f = .tuple #[.string ⟨#[]⟩, .int .i64 1]) := Lib.hid (by unfold rencV okL; rw [hm]; simp)
        have hg : (y != 0) = true ∧ pgI y = false := by
          unfold mayI at hm
          simp only [Bool.or_eq_false_iff] at hm
          exact ⟨by unfold bne; rw [hm.1]; rfl, hm.2⟩
        have hg1 := hg.1
        rw [hg.2] at HPG
        clear hm hg hok
        go_wp2_with (go_at_call 38; refine (HPG.out _).mono ?_; rintro e w7 ⟨rfl, rfl⟩)
        go_ret2
        exact ⟨by rw [HO.out]; rfl, HB0.out.trans (HBR.out.mono HB0.out.size)⟩
      | true =>
        have HX := Lib.hid (mayI_nn hm)
        have H4 : Hid (∀ w', Calls Try.prog 36 #[.int .i64 y] w' fun e w'' => e = .returned (.string (strB (four (lvF x y z u 1)))) ∧ Below w'.heap.size w' w'') := Lib.hid fun w' => by
          have := four_any y.toNat w' (by have := HX.out; omega)
          rwa [Int.toNat_of_nonneg HX.out.1] at this
        have HO : Hid (∀ j, j < 2 → okN x y z u j = true) := Lib.hid fun j hj => by
          by_cases e : j = 1
          · subst e; exact hm
          · exact hok j (by omega)
        have HA : Hid (strB (fours (lvF x y z u) 1) ++ strB (four (lvF x y z u 1)) = strB (fours (lvF x y z u) 2)) := Lib.hid (by rw [← strB_app]; rfl)
        have hsz : ¬ 9223372036854775807 < (strB (fours (lvF x y z u) 1)).size + (strB (four (lvF x y z u 1))).size := by
          rw [strB_size, strB_size, fours_len]; show ¬ _ < 4 * 1 + 4; omega
        have HG : Hid (y = 0 ∨ ((y != 0) = true ∧ pgI y = true)) := Lib.hid (by
          by_cases h0 : y = 0
          · exact .inl h0
          · refine .inr ⟨by simpa using h0, ?_⟩
            unfold mayI at hm
            simpa [h0] using hm)
        clear hm hok
        generalize hS : strB (fours (lvF x y z u) 1) = S at *
        generalize strB (four (lvF x y z u 1)) = Y at *
        have HS2 := Lib.hid hS
        clear hS
        rcases HG.out with h0 | ⟨h1, h2⟩
        · have hb0 : (y != 0) = false := by simp [h0]
          clear h0 HG
          go_wp2_with (go_at_call 36; refine (H4.out _).mono ?_; rintro e w7 ⟨rfl, hb7⟩)
          go_roundw
          case rel => exact ⟨2, by omega, by go_num, by rw [← HA.out], HO.out, HBR.out.trans (hb7.mono HBR.out.size)⟩
          case measure => simp [intOf]
        · rw [h2] at HPG
          clear h2 HG
          go_wp2_with (first
            | (go_at_call 38; refine (HPG.out _).mono ?_; rintro e w7 ⟨rfl, rfl⟩)
            | (go_at_call 36; refine (H4.out _).mono ?_; rintro e w7 ⟨rfl, hb7⟩))
          go_roundw
          case rel => exact ⟨2, by omega, by go_num, by rw [← HA.out], HO.out, HBR.out.trans (hb7.mono HBR.out.size)⟩
          case measure => simp [intOf]
    · have hd : decide ((2 : Int) < 4) = true := rfl
      have hcell := HKC.out wr HBR.out 2 z (by omega) rfl
      have HPG := Lib.hid (rpage_any z)
      cases hm : mayI z with
      | false =>
        have HO : Hid (rencV x y z u f = .tuple #[.string ⟨#[]⟩, .int .i64 1]) := Lib.hid (by unfold rencV okL; rw [hm]; simp)
        have hg : (z != 0) = true ∧ pgI z = false := by
          unfold mayI at hm
          simp only [Bool.or_eq_false_iff] at hm
          exact ⟨by unfold bne; rw [hm.1]; rfl, hm.2⟩
        have hg1 := hg.1
        rw [hg.2] at HPG
        clear hm hg hok
        go_wp2_with (go_at_call 38; refine (HPG.out _).mono ?_; rintro e w7 ⟨rfl, rfl⟩)
        go_ret2
        exact ⟨by rw [HO.out]; rfl, HB0.out.trans (HBR.out.mono HB0.out.size)⟩
      | true =>
        have HX := Lib.hid (mayI_nn hm)
        have H4 : Hid (∀ w', Calls Try.prog 36 #[.int .i64 z] w' fun e w'' => e = .returned (.string (strB (four (lvF x y z u 2)))) ∧ Below w'.heap.size w' w'') := Lib.hid fun w' => by
          have := four_any z.toNat w' (by have := HX.out; omega)
          rwa [Int.toNat_of_nonneg HX.out.1] at this
        have HO : Hid (∀ j, j < 3 → okN x y z u j = true) := Lib.hid fun j hj => by
          by_cases e : j = 2
          · subst e; exact hm
          · exact hok j (by omega)
        have HA : Hid (strB (fours (lvF x y z u) 2) ++ strB (four (lvF x y z u 2)) = strB (fours (lvF x y z u) 3)) := Lib.hid (by rw [← strB_app]; rfl)
        have hsz : ¬ 9223372036854775807 < (strB (fours (lvF x y z u) 2)).size + (strB (four (lvF x y z u 2))).size := by
          rw [strB_size, strB_size, fours_len]; show ¬ _ < 4 * 2 + 4; omega
        have HG : Hid (z = 0 ∨ ((z != 0) = true ∧ pgI z = true)) := Lib.hid (by
          by_cases h0 : z = 0
          · exact .inl h0
          · refine .inr ⟨by simpa using h0, ?_⟩
            unfold mayI at hm
            simpa [h0] using hm)
        clear hm hok
        generalize hS : strB (fours (lvF x y z u) 2) = S at *
        generalize strB (four (lvF x y z u 2)) = Y at *
        have HS2 := Lib.hid hS
        clear hS
        rcases HG.out with h0 | ⟨h1, h2⟩
        · have hb0 : (z != 0) = false := by simp [h0]
          clear h0 HG
          go_wp2_with (go_at_call 36; refine (H4.out _).mono ?_; rintro e w7 ⟨rfl, hb7⟩)
          go_roundw
          case rel => exact ⟨3, by omega, by go_num, by rw [← HA.out], HO.out, HBR.out.trans (hb7.mono HBR.out.size)⟩
          case measure => simp [intOf]
        · rw [h2] at HPG
          clear h2 HG
          go_wp2_with (first
            | (go_at_call 38; refine (HPG.out _).mono ?_; rintro e w7 ⟨rfl, rfl⟩)
            | (go_at_call 36; refine (H4.out _).mono ?_; rintro e w7 ⟨rfl, hb7⟩))
          go_roundw
          case rel => exact ⟨3, by omega, by go_num, by rw [← HA.out], HO.out, HBR.out.trans (hb7.mono HBR.out.size)⟩
          case measure => simp [intOf]
    · have hd : decide ((3 : Int) < 4) = true := rfl
      have hcell := HKC.out wr HBR.out 3 u (by omega) rfl
      have HPG := Lib.hid (rpage_any u)
      cases hm : mayI u with
      | false =>
        have HO : Hid (rencV x y z u f = .tuple #[.string ⟨#[]⟩, .int .i64 1]) := Lib.hid (by unfold rencV okL; rw [hm]; simp)
        have hg : (u != 0) = true ∧ pgI u = false := by
          unfold mayI at hm
          simp only [Bool.or_eq_false_iff] at hm
          exact ⟨by unfold bne; rw [hm.1]; rfl, hm.2⟩
        have hg1 := hg.1
        rw [hg.2] at HPG
        clear hm hg hok
        go_wp2_with (go_at_call 38; refine (HPG.out _).mono ?_; rintro e w7 ⟨rfl, rfl⟩)
        go_ret2
        exact ⟨by rw [HO.out]; rfl, HB0.out.trans (HBR.out.mono HB0.out.size)⟩
      | true =>
        have HX := Lib.hid (mayI_nn hm)
        have H4 : Hid (∀ w', Calls Try.prog 36 #[.int .i64 u] w' fun e w'' => e = .returned (.string (strB (four (lvF x y z u 3)))) ∧ Below w'.heap.size w' w'') := Lib.hid fun w' => by
          have := four_any u.toNat w' (by have := HX.out; omega)
          rwa [Int.toNat_of_nonneg HX.out.1] at this
        have HO : Hid (∀ j, j < 4 → okN x y z u j = true) := Lib.hid fun j hj => by
          by_cases e : j = 3
          · subst e; exact hm
          · exact hok j (by omega)
        have HA : Hid (strB (fours (lvF x y z u) 3) ++ strB (four (lvF x y z u 3)) = strB (fours (lvF x y z u) 4)) := Lib.hid (by rw [← strB_app]; rfl)
        have hsz : ¬ 9223372036854775807 < (strB (fours (lvF x y z u) 3)).size + (strB (four (lvF x y z u 3))).size := by
          rw [strB_size, strB_size, fours_len]; show ¬ _ < 4 * 3 + 4; omega
        have HG : Hid (u = 0 ∨ ((u != 0) = true ∧ pgI u = true)) := Lib.hid (by
          by_cases h0 : u = 0
          · exact .inl h0
          · refine .inr ⟨by simpa using h0, ?_⟩
            unfold mayI at hm
            simpa [h0] using hm)
        clear hm hok
        generalize hS : strB (fours (lvF x y z u) 3) = S at *
        generalize strB (four (lvF x y z u 3)) = Y at *
        have HS2 := Lib.hid hS
        clear hS
        rcases HG.out with h0 | ⟨h1, h2⟩
        · have hb0 : (u != 0) = false := by simp [h0]
          clear h0 HG
          go_wp2_with (go_at_call 36; refine (H4.out _).mono ?_; rintro e w7 ⟨rfl, hb7⟩)
          go_roundw
          case rel => exact ⟨4, by omega, by go_num, by rw [← HA.out], HO.out, HBR.out.trans (hb7.mono HBR.out.size)⟩
          case measure => simp [intOf]
        · rw [h2] at HPG
          clear h2 HG
          go_wp2_with (first
            | (go_at_call 38; refine (HPG.out _).mono ?_; rintro e w7 ⟨rfl, rfl⟩)
            | (go_at_call 36; refine (H4.out _).mono ?_; rintro e w7 ⟨rfl, hb7⟩))
          go_roundw
          case rel => exact ⟨4, by omega, by go_num, by rw [← HA.out], HO.out, HBR.out.trans (hb7.mono HBR.out.size)⟩
          case measure => simp [intOf]
    · have HO := Lib.hid (okN_all hok)
      have hd : decide ((4 : Int) < 4) = false := rfl
      obtain ⟨Z1, HZ1⟩ : ∃ Z1, Hid (Z1 = List.replicate 432 0) := ⟨_, Lib.hid rfl⟩
      obtain ⟨i0, hi0, hz0, hz1, hz2⟩ := info_parts Try.info5
      have hmk : ∀ w : World, (Instr.makeSlice 35 (.int .i64 432) (.int .i64 432)).run Try.prog w = .ok (.slice (some ⟨w.heap.size, 0, none⟩) 432 432) (w.alloc (.cells (u8s Z1).toArray 5)) := fun w => by
        have h := run_make (P := Try.prog) w 35 5 i0 _ Try.underlying35 hi0 hz0 .i64 .i64 ((432 : Nat) : Int) ((432 : Nat) : Int) (by omega) (by omega) (by rw [hz2]; omega) (by omega)
        rw [hz1, Int.toNat_natCast, Nat.mul_one] at h
        rw [HZ1.out, ← zeros_of 432, Array.toArray_toList]
        exact h
      have hcv : ∀ w : World, (convert 35 9 (.slice (some ⟨w.heap.size, 0, none⟩) 432 432)).run Try.prog (w.alloc (.cells (u8s Z1).toArray 5)) = .ok (.string (strB Z1)) (w.alloc (.cells (u8s Z1).toArray 5)) := fun w => by
        have hlz : Z1.length = 432 := by rw [HZ1.out, List.length_replicate]
        have hb : Bys (w.alloc (.cells (u8s Z1).toArray 5)) (some ⟨w.heap.size, 0, none⟩) 432 Z1 := ⟨hlz, by intro b hb; rw [HZ1.out, List.mem_replicate] at hb; omega, fun _ => ⟨w.heap.size, 0, rfl, fun j hj => by
          rw [cell_of_row _ _ _ _ _ _ (heap_alloc_new w _), Nat.zero_add, ← Array.getElem?_toList]
          exact u8s_get _ _ (by omega)⟩⟩
        exact hb.conv 432
      have HRB : Hid (∀ w', Below W.heap.size W w' → Calls Try.prog 27 #[.slice p 512 c] w' fun e w'' => e = .returned (.string (strB (rowF f 64))) ∧ Below w'.heap.size w' w'') := Lib.hid fun w' hb => rbytes_any p 512 c f w' (by omega) HSub.out (HBL.out.below hb)
      have HA : Hid (strB (fours (lvF x y z u) 4) ++ strB (rowF f 64) ++ strB Z1 = strB (dirB x y z u f)) := Lib.hid (by rw [← strB_app, ← strB_app, HZ1.out]; rfl)
      have hs1 : ¬ 9223372036854775807 < (strB (fours (lvF x y z u) 4)).size + (strB (rowF f 64)).size := by
        rw [strB_size, strB_size, fours_len, rowF_len]; omega
      have hs2 : ¬ 9223372036854775807 < (strB (fours (lvF x y z u) 4) ++ strB (rowF f 64)).size + (strB Z1).size := by
        rw [← strB_app, strB_size, strB_size, HZ1.out, List.length_append, fours_len, rowF_len, List.length_replicate]; omega
      have HV : Hid (rencV x y z u f = .tuple #[.string (strB (dirB x y z u f)), .int .i64 0]) := Lib.hid (by unfold rencV; rw [HO.out]; rfl)
      rw [← HA.out] at HV
      clear hok hi hi0 hz0 hz1 hz2
      generalize strB (fours (lvF x y z u) 4) = S1 at *
      generalize strB (rowF f 64) = S2 at *
      generalize strB Z1 = S3 at *
      go_wp2_with (go_at_call 27; refine (HRB.out _ HBR.out).mono ?_; rintro e w7 ⟨rfl, hb7⟩)
      go_ret2
      have hA := (HB0.out.trans (HBR.out.mono HB0.out.size)).trans (hb7.mono (by have := HB0.out.size; have := HBR.out.size; omega))
      exact ⟨by rw [HV.out]; rfl, hA.alloc hA.size _⟩
end Go.Proofs.Ytamfkglkgfggaaa
