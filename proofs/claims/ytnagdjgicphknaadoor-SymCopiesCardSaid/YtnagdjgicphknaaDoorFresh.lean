/- Fresh; a copy. -/
import Derived.Test.YtnagdjgicphknaaDoorFresh0
set_option linter.unusedSimpArgs false
set_option maxRecDepth 20000
namespace Go.Proofs.YtnagdjgicphknaaDoor
open Go.RowKit

section
variable {w : World} {g : Nat} {F : List Nat} {L : List ByteArray}
theorem fresh_nil (S : ByteArray) (w : World) : Calls Tryd.prog 17 #[.pointer none, .string S] w fun e w' => e = .returned (.tuple #[.int .i64 0, .int .i64 1]) ∧ w = w' := by
  go_enter Tryd.func17, Tryd.ntmps17
  go_wp2_with fail
  go_ret2
  exact ⟨rfl, rfl⟩
/-- What Fresh answers. -/
def frA (L : List ByteArray) (S : ByteArray) : Int := if okB S = true then (L.length : Int) else 0
set_option maxHeartbeats 800000 in
theorem fresh_any (h : Tb w g F L) (S : ByteArray) (hr : Room w L) : Calls Tryd.prog 17 #[.pointer (some ⟨g, 0, none⟩), .string S] w fun e w' => e = .returned (.tuple #[.int .i64 (frA L S), .int .i64 (errA S)]) ∧ Went F g (frM L S) w w' := by
  have HT := Lib.hid h
  have hl := hr.le
  have HR := Lib.hid hr
  clear hr
  have HMay := Lib.hid (may_any S w)
  by_cases hS : okB S = true
  · rw [hS] at HMay
    rw [show frA L S = (L.length : Int) by unfold frA; rw [if_pos hS], show errA S = 0 by unfold errA; rw [if_pos hS], show frM L S = L ++ [fr L S] by unfold frM; rw [if_pos hS]]
    have HFull := Lib.hid (full_any HT.out (by omega))
    have HI := Lib.hid (ifresh_any HT.out HR.out S hS)
    have HA : Hid (∀ w1, Below w.heap.size w w1 → Calls Tryd.prog 24 #[.pointer (some ⟨g, 0, none⟩), .string (fr L S)] w1 fun e w' => e = .returned (.int .i64 (L.length : Int)) ∧ Went F g (L ++ [fr L S]) w1 w') := Lib.hid (fun w1 hb => add_any (HT.out.below hb) (fr L S) (fr_ok hS (by omega)) (fr_not S (by omega)) (by omega))
    clear h
    go_enter Tryd.func17, Tryd.ntmps17
    go_wp2_with (first
      | (go_at_call 11; refine HMay.out.mono ?_; rintro e w1 ⟨rfl, rfl⟩)
      | (go_at_call 23; refine HFull.out.mono ?_; rintro e w1 ⟨rfl, rfl⟩)
      | (go_at_call 26; refine HI.out.mono ?_; rintro e w1 ⟨rfl, hb1⟩)
      | (go_at_call 24; refine (HA.out _ hb1).mono ?_; rintro e w2 ⟨rfl, hw2⟩))
    go_ret2
    exact ⟨rfl, hw2.pre hb1⟩
  · have hS2 : okB S = false := by simpa using hS
    rw [hS2] at HMay
    rw [show frA L S = 0 by unfold frA; rw [if_neg hS], show errA S = 1 by unfold errA; rw [if_neg hS], show frM L S = L by unfold frM; rw [if_neg hS]]
    go_enter Tryd.func17, Tryd.ntmps17
    go_wp2_with (refine HMay.out.mono ?_; rintro e w1 ⟨rfl, rfl⟩)
    go_ret2
    exact ⟨rfl, Went.refl HT.out⟩
theorem copy_nil (w : World) : Calls Tryd.prog 20 #[.pointer none] w fun e w' => e = .returned (.pointer none) ∧ w = w' := by
  go_enter Tryd.func20, Tryd.ntmps20
  go_wp2_with fail
  go_ret
  exact ⟨rfl, rfl⟩
end
end Go.Proofs.YtnagdjgicphknaaDoor
