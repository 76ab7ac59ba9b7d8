/- New; lives; ops in memory; light. -/
import Derived.Test.YtekmboolfjicbaaHSetB
import Derived.Test.YtekmboolfjicbaaHVal
import Derived.Maps.OwnSet
set_option maxRecDepth 20000
set_option linter.unusedSimpArgs false
namespace Go.Proofs.Ytekmboolfjicbaa
open Go.RowKit

/-- A memory without objects. -/
def newM (lim : Nat) : Hm := ⟨lim, [], 0, .nilFunc, 0, fun _ => none⟩
theorem newM_ok {lim : Nat} (h0 : 1 ≤ lim) (h1 : lim ≤ 16384) : (newM lim).Ok :=
  ⟨h0, h1, Nat.zero_le _, Nat.le_refl _, fun i hi => absurd hi (Nat.not_lt_zero i), Nat.zero_le _, fun i c hc => (by rw [show (newM lim).L = [] from rfl, clAt_ge (Nat.zero_le i)] at hc; cases hc), fun n i h => (by cases h), fun i c hc => (by rw [show (newM lim).L = [] from rfl, clAt_ge (Nat.zero_le i)] at hc; cases hc)⟩
set_option maxHeartbeats 800000 in
theorem new_any (lim : Nat) (h0 : 1 ≤ lim) (h1 : lim ≤ 16384) (w : World) : Calls Try.prog 17 #[.int .i64 (lim : Int)] w fun e w' => ∃ g F, e = .returned (.tuple #[.pointer (some ⟨g, 0, none⟩), .int .i64 0]) ∧ Hep w' g F (newM lim) ∧ (∀ k, F k → w.heap.size ≤ k) ∧ w.heap.size ≤ g ∧ Below w.heap.size w w' := by
  have d0 : decide ((lim : Int) < 1) = false := by simp; omega
  have d1 : decide ((16384 : Int) < (lim : Int)) = false := by simp; omega
  have d2 : decide (lim < 1) = false := by simp; omega
  have d3 : decide (16384 < lim) = false := by simp; omega
  have hmm := @run_makeMap Try.prog
  have hM := Nums.made w
  have HFIN : Hid (Hp ((w.alloc (.map #[] 0)).alloc (.cells #[.int .i64 (lim : Int), .slice none 0 0, .int .i64 0, .int .i64 0, .map (some w.heap.size), .nilFunc, .int .i64 0] 94)) (w.heap.size + 1) (.slice none 0 0) w.heap.size (fun _ => none) (newM lim)) := Lib.hid
    ⟨heap_alloc2_new w _ _,
     World.ownsRow_nil _ _ _ _, fun i c hc => (by rw [show (newM lim).L = [] from rfl, clAt_ge (Nat.zero_le i)] at hc; cases hc), fun _ _ => rfl, hM.same (heap_alloc_old _ _ (by simp)), fun i j x y _ hx => (by cases hx), newM_ok h0 h1⟩
  clear hM h0 h1
  go_enter Try.func17, Try.ntmps17
  go_wp2_with fail
  go_ret2
  refine ⟨w.heap.size + 1, _, rfl, HFIN.out.hep, ?_, by omega, b2 w _ _⟩
  rintro k (rfl | e | rfl | ⟨i, x, hx, _⟩)
  · omega
  · simp [Value.ownBlock] at e
  · exact Nat.le_refl _
  · cases hx
end Go.Proofs.Ytekmboolfjicbaa
