/- Same: two records, part by part. -/
import Derived.Test.YtpdihgmgcamgkaaPMem
import Derived.Deep.QuietTactic
import Derived.BigQuiet
import Derived.Laws.StructEq
import Derived.Deep.Cut
set_option linter.unusedSimpArgs false
set_option maxRecDepth 20000
namespace Go.Proofs.Ytpdihgmgcamgkaa
open Go.RowKit

instance decPt : DecidableEq Pt := fun a b => decidable_of_iff (a.k = b.k ∧ a.n = b.n ∧ a.s = b.s) ⟨fun ⟨h1, h2, h3⟩ => by cases a; cases b; simp only at h1 h2 h3; rw [h1, h2, h3], fun h => by rw [h]; exact ⟨rfl, rfl, rfl⟩⟩
theorem decPt_eq (p r : Pt) : decide (p = r) = (decide (p.k = r.k) && (decide (p.n = r.n) && decide (p.s = r.s))) := by
  by_cases h : p = r
  · subst h; simp
  · rw [decide_eq_false h]
    by_cases h1 : p.k = r.k <;> by_cases h2 : p.n = r.n <;> by_cases h3 : p.s = r.s <;> simp [h1, h2, h3]
    exact absurd (by cases p; cases r; simp only at h1 h2 h3; rw [h1, h2, h3]) h
theorem neqP (p r : Pt) (w : World) : (binOp .neq 54 (.agg #[.int .i64 p.k, .int .i64 p.n, .string p.s]) (.agg #[.int .i64 r.k, .int .i64 r.n, .string r.s])).run Try.prog w = .ok (.bool (!decide (p = r))) w := by
  have u3 := Try.underlying3
  have u9 := Try.underlying9
  have a3 := Try.isAgg3
  have z3 := Try.sizeOf3
  have a9 := Try.isAgg9
  have z9 := Try.sizeOf9
  have hS : Try.prog.underlying 54 = some (.struct (Try.prog.fieldsOf 54)) := by kernel_rfl
  have hp : Try.prog.stoodInHeld 54 = false := by kernel_rfl
  rw [run_neq_struct, show (10000 : Nat) = 9999 + 1 from rfl, run_equalIn_agg w 9999 54 _ _ hS hp]
  simp only [Program.fieldsOf, Try.underlying54]
  have hs : (p.s.toList == r.s.toList) = decide (p.s = r.s) := by
    by_cases h : p.s = r.s
    · rw [h]; simp
    · have : p.s.toList ≠ r.s.toList := fun e => h (by
        rw [ByteArray.toList_eq, ByteArray.toList_eq] at e
        exact ByteArray.ext (Array.ext' e))
      simp [h, this]
  go_simp
  rw [decPt_eq p r]
  by_cases h1 : p.k = r.k <;> by_cases h2 : p.n = r.n <;> by_cases h3 : p.s = r.s <;> simp [h1, h2, h3]
theorem guardP : Try.prog.eqGuardType Try.prog.depth 54 = false := by kernel_rfl
theorem neqR (p r : Pt) (w : World) : (binOp .neq 50 (.agg #[.int .i64 p.k, .int .i64 p.n, .string p.s]) (.agg #[.int .i64 r.k, .int .i64 r.n, .string r.s])).run Try.prog w = .ok (.bool (!decide (p = r))) w := by
  have u3 := Try.underlying3
  have u9 := Try.underlying9
  have a3 := Try.isAgg3
  have z3 := Try.sizeOf3
  have a9 := Try.isAgg9
  have z9 := Try.sizeOf9
  have hS : Try.prog.underlying 50 = some (.struct (Try.prog.fieldsOf 50)) := by kernel_rfl
  have hp : Try.prog.stoodInHeld 50 = false := by kernel_rfl
  rw [run_neq_struct, show (10000 : Nat) = 9999 + 1 from rfl, run_equalIn_agg w 9999 50 _ _ hS hp]
  simp only [Program.fieldsOf, Try.underlying50]
  have hs : (p.s.toList == r.s.toList) = decide (p.s = r.s) := by
    by_cases h : p.s = r.s
    · rw [h]; simp
    · have : p.s.toList ≠ r.s.toList := fun e => h (by
        rw [ByteArray.toList_eq, ByteArray.toList_eq] at e
        exact ByteArray.ext (Array.ext' e))
      simp [h, this]
  go_simp
  rw [decPt_eq p r]
  by_cases h1 : p.k = r.k <;> by_cases h2 : p.n = r.n <;> by_cases h3 : p.s = r.s <;> simp [h1, h2, h3]
theorem guardR : Try.prog.eqGuardType Try.prog.depth 50 = false := by kernel_rfl
theorem below_drewN {B : Nat} {a w : World} (h : Below B a w) (n : Nat) : Below B a (w.drewN n) := ⟨h.os, h.tape, h.output, h.size, h.block⟩
set_option maxHeartbeats 1600000 in
theorem equal_any (q1 q2 : Option Addr) (n c1 c2 : Nat) (l1 l2 : List Pt) (w : World) (hn : n ≤ 9223372036854775807) (h1 : Pts w q1 n l1) (h2 : Pts w q2 n l2) :
    Calls Try.prog 41 #[.slice q1 n c1, .slice q2 n c2] w fun e w' => e = .returned (.bool (decide (l1 = l2))) ∧ Below w.heap.size w w' := by
  have H1 := Lib.hid h1
  have H2 := Lib.hid h2
  clear h1 h2
  go_enter Try.func41, Try.ntmps41
  go_wp2_with fail
  go_loopw [5, 13] (fun _ iv wr => ∃ i : Nat, i ≤ n ∧ iv = .int .i64 (i : Int) ∧ Hid (Below w.heap.size w wr) ∧ Hid (∀ j, j < i → l1.getD j default = l2.getD j default)) (fun _ iv _ => n - (intOf iv).toNat)
  case atStart => exact ⟨0, by omega, by go_num, Lib.hid (Below.refl _ _), Lib.hid (fun j hj => absurd hj (Nat.not_lt_zero j))⟩
  case round =>
    obtain ⟨i, hi, rfl, HB, HJ⟩ := hrel
    by_cases hlt : i < n
    · obtain ⟨b1, o1, rfl, hc1⟩ := (H1.out.below (HB.out.mono (Nat.le_refl _))).2 (by omega)
      obtain ⟨b2, o2, rfl, hc2⟩ := (H2.out.below (HB.out.mono (Nat.le_refl _))).2 (by omega)
      obtain ⟨p0, p1, p2⟩ := hc1 i hlt
      obtain ⟨q0, q1, q2⟩ := hc2 i hlt
      have hd1 : decide ((i : Int) < (n : Int)) = true := by simp; omega
      clear hc1 hc2
      go_upto_region 6 with fail
      obtain ⟨x, HX⟩ : ∃ x, Hid (l1.getD i default = x) := ⟨_, Lib.hid rfl⟩
      obtain ⟨y, HY⟩ : ∃ y, Hid (l2.getD i default = y) := ⟨_, Lib.hid rfl⟩
      rw [HX.out] at p0 p1 p2
      rw [HY.out] at q0 q1 q2
      have hNE := fun w => neqP x y w
      have hG := guardP
      by_cases hxy : x = y
      · have hd2 : decide (x = y) = true := decide_eq_true hxy
        rw [hd2] at hNE
        have HJ2 : Hid (∀ j, j < i + 1 → l1.getD j default = l2.getD j default) := Lib.hid (fun j hj => (Nat.lt_succ_iff_lt_or_eq.1 hj).elim (HJ.out j) (fun e => by rw [e, HX.out, HY.out, hxy]))
        clear hxy hd2
        go_quiet (fail)
        go_wp2_with fail
        go_roundw
        case rel => exact ⟨i + 1, by omega, by go_num, Lib.hid (by first | exact HB.out | exact below_drewN HB.out _), HJ2⟩
        case measure => simp [intOf]; omega
      · have hd2 : decide (x = y) = false := decide_eq_false hxy
        rw [hd2] at hNE
        have HR : Hid (decide (l1 = l2) = false) := Lib.hid (decide_eq_false (fun e => hxy (by rw [← HX.out, ← HY.out, e])))
        clear hxy hd2
        go_quiet (fail)
        go_wp2_with fail
        go_ret
        rw [HR.out]
        exact ⟨rfl, below_drewN HB.out _⟩
    · obtain rfl : i = n := by omega
      have HR : Hid (decide (l1 = l2) = true) := Lib.hid (decide_eq_true (by
        apply List.ext_getElem (by rw [H1.out.1, H2.out.1])
        intro j h1 h2
        have := HJ.out j (by rw [← H1.out.1]; exact h1)
        rw [List.getD_eq_getElem?_getD, List.getD_eq_getElem?_getD, List.getElem?_eq_getElem h1, List.getElem?_eq_getElem h2] at this
        exact this))
      go_wp2_with fail
      go_ret
      rw [HR.out]
      exact ⟨rfl, HB.out⟩
theorem equal_len (q1 q2 : Option Addr) (n m c1 c2 : Nat) (w : World) (hnm : n ≠ m) :
    Calls Try.prog 41 #[.slice q1 n c1, .slice q2 m c2] w fun e w' => e = .returned (.bool false) ∧ Below w.heap.size w w' := by
  have hd : ((n : Int) != (m : Int)) = true := by simp; omega
  clear hnm
  go_enter Try.func41, Try.ntmps41
  go_wp2_with fail
  go_ret
  exact ⟨rfl, Below.refl _ _⟩
theorem equal_all (q1 q2 : Option Addr) (n m c1 c2 : Nat) (l1 l2 : List Pt) (w : World) (hn : n ≤ 9223372036854775807) (h1 : Pts w q1 n l1) (h2 : Pts w q2 m l2) :
    Calls Try.prog 41 #[.slice q1 n c1, .slice q2 m c2] w fun e w' => e = .returned (.bool (decide (l1 = l2))) ∧ Below w.heap.size w w' := by
  by_cases h : n = m
  · subst h; exact equal_any q1 q2 n c1 c2 l1 l2 w hn h1 h2
  · rw [decide_eq_false (fun e => h (by rw [← h1.1, ← h2.1, e]))]
    exact equal_len q1 q2 n m c1 c2 w h
end Go.Proofs.Ytpdihgmgcamgkaa
