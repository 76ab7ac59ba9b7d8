/- Are two sets the same? -/
import Derived.Test.YtamfkglkgfggaaaOf
namespace Go.Proofs.Ytamfkglkgfggaaa
open Go.RowKit

set_option maxHeartbeats 1600000 in
theorem same_any {w : World} {g b n g2 b2 m : Nat} {f k : Nat → Bool} (h : Sat w g b n f) (h2 : Sat w g2 b2 m k) :
    Calls Try.prog 28 #[.pointer (some ⟨g, 0, none⟩), .pointer (some ⟨g2, 0, none⟩)] w fun e w' => e = .returned (.bool (decide (n = m ∧ rowF f (need n) = rowF k (need m)))) ∧ Below w.heap.size w w' := by
  have l0 : ∀ s : In w, s.1.cell? ⟨g, 0, none⟩ = some (.int .i64 (n : Int)) := fun s => (h.below s.2).c0
  have l1 : ∀ s : In w, s.1.cell? ⟨g, 1, none⟩ = some (.slice (some ⟨b, 0, none⟩) (need n) (need n)) := fun s => (h.below s.2).c1
  have l2 : ∀ s : In w, s.1.cell? ⟨g2, 0, none⟩ = some (.int .i64 (m : Int)) := fun s => (h2.below s.2).c0
  have l3 : ∀ s : In w, s.1.cell? ⟨g2, 1, none⟩ = some (.slice (some ⟨b2, 0, none⟩) (need m) (need m)) := fun s => (h2.below s.2).c1
  have HE : Hid (∀ s : In w, Calls Try.prog 52 #[.slice (some ⟨b, 0, none⟩) (need n) (need n), .slice (some ⟨b2, 0, none⟩) (need m) (need m)] s.1 fun e w' => e = .returned (.bool (decide (rowF f (need n) = rowF k (need m)))) ∧ s.1 = w') := Lib.hid fun s => equal_any _ _ _ _ _ _ _ _ _ (h.below s.2).bys (h2.below s.2).bys
  clear h h2
  have hne := In.some w
  by_cases hnm : n = m
  · have he : ((n : Int) == (m : Int)) = true := by rw [hnm]; simp
    have hd : decide (n = m ∧ rowF f (need n) = rowF k (need m)) = decide (rowF f (need n) = rowF k (need m)) := by
      by_cases hr : rowF f (need n) = rowF k (need m)
      · rw [decide_eq_true hr, decide_eq_true ⟨hnm, hr⟩]
      · rw [decide_eq_false hr, decide_eq_false (fun h => hr h.2)]
    rw [hd]
    generalize decide (rowF f (need n) = rowF k (need m)) = v at *
    clear hnm hd
    go_enter Try.func28, Try.ntmps28
    go_upto_region 3 with fail
    refine region_in w (by kernel_rfl) (by kernel_rfl) (Below.refl _ _) ?_
    repeat (go_big_quiet_step ((go_at_call 52; exact Calls.quiet_in_same (HE.out _))))
    refine wpQuiet_nil ?_
    intro w12 hw'
    have hb12 : Below w.heap.size w w12 := by
      obtain ⟨⟨wz, hbz⟩, hw''⟩ := hw'
      subst hw''
      exact hbz
    clear hw'
    go_wp2_with fail
    go_ret
    exact ⟨rfl, hb12⟩
  · have he : ((n : Int) == (m : Int)) = false := by simp; omega
    rw [decide_eq_false (fun h => hnm h.1)]
    clear hnm HE
    go_enter Try.func28, Try.ntmps28
    go_upto_region 3 with fail
    refine region_in w (by kernel_rfl) (by kernel_rfl) (Below.refl _ _) ?_
    repeat (go_big_quiet_step (fail))
    refine wpQuiet_nil ?_
    intro w12 hw'
    have hb12 : Below w.heap.size w w12 := by
      obtain ⟨⟨wz, hbz⟩, hw''⟩ := hw'
      subst hw''
      exact hbz
    clear hw'
    go_wp2_with fail
    go_ret
    exact ⟨rfl, hb12⟩
end Go.Proofs.Ytamfkglkgfggaaa
