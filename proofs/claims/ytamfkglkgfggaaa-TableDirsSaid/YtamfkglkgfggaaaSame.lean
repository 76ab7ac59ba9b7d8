/- Does a table tell what a row does? -/
import Derived.Test.YtamfkglkgfggaaaMade
set_option linter.unusedSimpArgs false
namespace Go.Proofs.Ytamfkglkgfggaaa
open Go.RowKit

set_option maxRecDepth 100000 in
set_option maxHeartbeats 1600000 in
theorem same_tab {w : World} {g : Nat} {f : Nat → Nat} (h : Tab w g f) :
    Calls Try.prog 8 #[.pointer (some ⟨g, 0, none⟩), .agg (rowA f 512)] w fun e w' => e = .returned (.bool true) ∧ Below w.heap.size w w' := by
  have HI : Hid (IsT (w.alloc (.cells (rowA f 512) 25)) w.heap.size 25 f 512) := Lib.hid (heap_alloc_new w _)
  have HB : Hid (Below w.heap.size w (w.alloc (.cells (rowA f 512) 25))) := Lib.hid ((Below.refl _ _).alloc (Nat.le_refl _) _)
  have HT := Lib.hid (h.below HB.out)
  have HL := Lib.hid (len_any HT.out)
  clear h
  generalize rowA f 512 = Z at *
  generalize hW : w.alloc (.cells Z 25) = W at *
  have HW := Lib.hid hW
  clear hW
  go_enter Try.func8, Try.ntmps8
  go_upto_region 1 with fail
  rw [HW.out]
  go_wp2_with fail
  go_loop [6, 5] (fun iv nv => ∃ i : Nat, i ≤ 512 ∧ iv = .int .i64 (i : Int) ∧ nv = .int .i64 (cnt (told f) i : Int)) (fun iv _ => 512 - (intOf iv).toNat)
  case atStart => exact ⟨0, by omega, by go_num, rfl⟩
  case round =>
    obtain ⟨i, hi, rfl, rfl⟩ := hrel
    by_cases hlt : i < 512
    · have hd : decide ((i : Int) < 512) = true := decide_eq_true (by omega)
      have hiz : (i : Int) < 512 := by omega
      have HG := Lib.hid (get_in HT.out i hlt)
      have hc := HI.out.cell i hlt
      have HLT := Lib.hid hlt
      have HTI : Hid (told f i = (((f i : Nat) : Int) != 0)) := Lib.hid (told_int f i)
      rw [HTI.out] at HG
      have hcl := cnt_le (told f) i
      have hz2 : (cnt (told f) i : Int) ≤ 512 := by omega
      have hz3 : (0 : Int) ≤ (cnt (told f) i : Int) := by omega
      have HC : Hid (cnt (told f) (i + 1) = cnt (told f) i + (told f i).toNat) := Lib.hid rfl
      clear hlt hi hcl
      generalize hb : (((f i : Nat) : Int) != 0) = b at *
      rw [HTI.out] at HC
      generalize cnt (told f) i = k at *
      generalize f i = v at *
      cases b with
      | true =>
        go_wp2_with (go_at_call 30; refine HG.out.mono ?_; rintro e w7 ⟨rfl, rfl⟩)
        go_round
        case rel => exact ⟨i + 1, by have := HLT.out; omega, by go_num, by rw [HC.out]; go_num⟩
        case measure => have := HLT.out; simp [intOf]; omega
      | false =>
        go_wp2_with (go_at_call 30; refine HG.out.mono ?_; rintro e w7 ⟨rfl, rfl⟩)
        go_round
        case rel => exact ⟨i + 1, by have := HLT.out; omega, by go_num, by rw [HC.out]; rfl⟩
        case measure => have := HLT.out; simp [intOf]; omega
    · have hd : decide ((i : Int) < 512) = false := decide_eq_false (by omega)
      have HE : Hid (i = 512) := Lib.hid (by omega)
      rw [← HE.out] at HL
      clear hlt hi
      generalize cnt (told f) i = k at *
      go_wp2_with (go_at_call 10; refine HL.out.mono ?_; rintro e w7 ⟨rfl, hb7⟩)
      go_ret
      exact ⟨rfl, HB.out.trans (hb7.mono HB.out.size)⟩
end Go.Proofs.Ytamfkglkgfggaaa
