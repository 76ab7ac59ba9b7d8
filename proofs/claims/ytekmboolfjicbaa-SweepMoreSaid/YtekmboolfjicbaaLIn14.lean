/- Is a value in a list? -/
import Derived.Test.YtekmboolfjicbaaLMade14
import Derived.Test.YtekmboolfjicbaaLLives15
import Derived.Deep.RegionHeld3
import Derived.Deep.QuietTactic
import Derived.BigQuiet
set_option maxRecDepth 20000
set_option linter.unusedSimpArgs false
set_option linter.unusedVariables false
namespace Go.Proofs.Ytekmboolfjicbaa
open Go.RowKit

set_option maxHeartbeats 1600000 in
theorem in_any {w : World} (q : Option Addr) (n c : Nat) (l : List (Int × Int)) (hl : Vls w q n l) (hn : n ≤ 1000000) (a b : Int) :
    Calls Try.prog 9 #[.slice q n c, .agg #[.int .i64 a, .int .i64 b]] w fun e w' => e = .returned (.bool (hasK l (a, b))) ∧ Below w.heap.size w w' := by
  have HB : Hid (Below w.heap.size w (w.alloc (.cells #[.int .i64 a, .int .i64 b] 36))) := Lib.hid (alloc_below _ _)
  have hx := heap_alloc_new w (.cells #[.int .i64 a, .int .i64 b] 36)
  have HLL := Lib.hid (hl.below HB.out)
  have HLE := Lib.hid hl.len
  clear hl
  have hG := guardV
  go_enter Try.func9, Try.ntmps9
  go_wp2_with fail
  generalize w.alloc (.cells #[.int .i64 a, .int .i64 b] 36) = wa at *
  have x0 := cell_of_row _ _ 0 _ _ _ hx
  have x1 := cell_of_row _ _ 1 _ _ _ hx
  simp at x0 x1
  have HXL := Lib.hid (lt_of_block hx)
  clear hx
  go_loopw [5] (fun iv wr => ∃ i : Nat, i ≤ n ∧ iv = .int .i64 (i : Int) ∧ Hid (Below wa.heap.size wa wr) ∧ Hid (∀ j, j < i → l.getD j (0, 0) ≠ (a, b))) (fun iv _ => n - (intOf iv).toNat)
  case atStart => exact ⟨0, by omega, by go_num, Lib.hid (Below.refl _ _), Lib.hid fun j hj => by omega⟩
  case round =>
    obtain ⟨i, hi, rfl, HBR, HNO⟩ := hrel
    have y0 := (HBR.out.cell (p := ⟨w.heap.size, 0, none⟩) HXL.out).trans x0
    have y1 := (HBR.out.cell (p := ⟨w.heap.size, 1, none⟩) HXL.out).trans x1
    by_cases hlt : i < n
    · obtain ⟨B, o, e, hat⟩ := (HLL.out.below HBR.out).2 (by omega)
      cases e
      obtain ⟨z0, z1⟩ := hat i hlt
      obtain ⟨v, HV⟩ : ∃ v, Hid (l.getD i (0, 0) = v) := ⟨_, Lib.hid rfl⟩
      rw [HV.out] at z0 z1
      obtain ⟨v1, v2⟩ := v
      dsimp only at z0 z1
      have hin : (i : Int) < (n : Int) := by omega
      have hi6 : (i : Int) ≤ 1000000 := by omega
      have HLT : Hid (i + 1 ≤ n) := Lib.hid hlt
      have hE := fun u => eqlV (v1, v2) (a, b) u
      have HW : Hid (Below w.heap.size w wr.drew) := Lib.hid ((HB.out.trans (HBR.out.mono HB.out.size)).drew)
      by_cases he : ((v1, v2) : Int × Int) = (a, b)
      · have hd : decide (((v1, v2) : Int × Int) = (a, b)) = true := decide_eq_true he
        simp only [hd] at hE
        have HF : Hid (hasK l (a, b) = true) := Lib.hid (hasK_yes (by
          rw [← he, ← HV.out, List.getD_eq_getElem?_getD, List.getElem?_eq_getElem (by have := HLE.out; omega)]
          exact List.getElem_mem _))
        clear hat he hd HNO HLT HV x0 x1
        go_upto_region 4 with fail
        go_region
        go_wp2_with fail
        go_ret
        exact ⟨by rw [HF.out]; rfl, HW.out⟩
      · have hd : decide (((v1, v2) : Int × Int) = (a, b)) = false := decide_eq_false he
        simp only [hd] at hE
        have HNX : Hid (∀ j, j < i + 1 → l.getD j (0, 0) ≠ (a, b)) := Lib.hid fun j hj => (Nat.lt_succ_iff_lt_or_eq.1 hj).elim (HNO.out j) fun e => by rw [e, HV.out]; exact he
        have HB2 : Hid (Below wa.heap.size wa wr.drew) := Lib.hid HBR.out.drew
        clear hat he hd HNO HV x0 x1
        go_upto_region 4 with fail
        go_region
        go_wp2_with fail
        go_roundw
        case rel => exact ⟨i + 1, HLT.out, by go_num, HB2, HNX⟩
        case measure => simp [intOf]; omega
    · obtain rfl : i = n := by omega
      have HW : Hid (Below w.heap.size w wr) := Lib.hid (HB.out.trans (HBR.out.mono HB.out.size))
      have HF : Hid (hasK l (a, b) = false) := Lib.hid (hasK_no fun hm => by
        obtain ⟨j, hj, e⟩ := List.getElem_of_mem hm
        exact HNO.out j (by have := HLE.out; omega) (by rw [List.getD_eq_getElem?_getD, List.getElem?_eq_getElem hj, e]; rfl))
      go_wp2_with fail
      go_ret
      exact ⟨by rw [HF.out]; rfl, HW.out⟩
end Go.Proofs.Ytekmboolfjicbaa
