/- What the disk's small calls return. -/
import Derived.Test.YtnjlhallkgacjaaUpd
import Derived.Deep.QuietTactic
import Derived.BigQuiet
namespace Go.Proofs.Ytnjlhallkgacjaa
open Go.RowKit

section
variable {w : World} {g bO cO bL cL : Nat} {vW : Value} {os ls : List Value} {ws : List Vw} {m : Dsk}
set_option maxHeartbeats 400000 in
theorem ready_up (h : Dk0 w g bO cO bL cL vW os ls ws m) (hd : m.down = false) :
    Calls Try.prog 51 #[.pointer (some ⟨g, 0, none⟩)] w fun e w' => e = .returned (.int .i64 0) ∧ w = w' := by
  have hc := h.c4
  rw [hd] at hc
  clear h hd
  go_enter Try.func51, Try.ntmps51
  go_wp2_with fail
  go_ret
  exact ⟨rfl, rfl⟩
set_option maxHeartbeats 400000 in
theorem ready_down (h : Dk0 w g bO cO bL cL vW os ls ws m) (hd : m.down = true) :
    Calls Try.prog 51 #[.pointer (some ⟨g, 0, none⟩)] w fun e w' => e = .returned (.int .i64 9) ∧ w = w' := by
  have hc := h.c4
  rw [hd] at hc
  clear h hd
  go_enter Try.func51, Try.ntmps51
  go_wp2_with fail
  go_ret
  exact ⟨rfl, rfl⟩
set_option maxHeartbeats 400000 in
theorem ready_nil (w : World) : Calls Try.prog 51 #[.pointer none] w fun e w' => e = .returned (.int .i64 1) ∧ w = w' := by
  go_enter Try.func51, Try.ntmps51
  go_wp2_with fail
  go_ret
  exact ⟨rfl, rfl⟩
set_option maxHeartbeats 400000 in
theorem sectors_any (h : Dk0 w g bO cO bL cL vW os ls ws m) (n : Nat) (hn : Hid (m.out.length = n)) :
    Calls Try.prog 35 #[.pointer (some ⟨g, 0, none⟩)] w fun e w' => e = .returned (.int .i64 (n : Int)) ∧ w = w' := by
  have hc := h.c0
  rw [hn.out] at hc
  clear h hn
  go_enter Try.func35, Try.ntmps35
  go_wp2_with fail
  go_ret
  exact ⟨rfl, rfl⟩
set_option maxHeartbeats 400000 in
theorem sectors_nil (w : World) : Calls Try.prog 35 #[.pointer none] w fun e w' => e = .returned (.int .i64 0) ∧ w = w' := by
  go_enter Try.func35, Try.ntmps35
  go_wp2_with fail
  go_ret
  exact ⟨rfl, rfl⟩
set_option maxHeartbeats 400000 in
theorem has_low_ (v : Value) (i : Int) (w : World) (hi : i < 0) :
    Calls Try.prog 52 #[v, .int .i64 i] w fun e w' => e = .returned (.bool false) ∧ w = w' := by
  have hd : decide ((0 : Int) ≤ i) = false := decide_eq_false (by omega)
  go_enter Try.func52, Try.ntmps52
  go_wp2_with fail
  go_ret
  exact ⟨rfl, rfl⟩
set_option maxHeartbeats 400000 in
theorem has_any (h : Dk0 w g bO cO bL cL vW os ls ws m) (i : Int) :
    Calls Try.prog 52 #[.pointer (some ⟨g, 0, none⟩), .int .i64 i] w fun e w' => e = .returned (.bool (m.has i)) ∧ w = w' := by
  by_cases hi : i < 0
  · rw [has_low hi]; exact has_low_ _ i w hi
  · obtain ⟨n, hn⟩ : ∃ n, Hid (m.out.length = n) := ⟨_, Lib.hid rfl⟩
    have hs := sectors_any h n hn
    have HH : Hid (m.has i = decide (i < (n : Int))) := Lib.hid (by unfold Dsk.has; rw [hn.out]; simp; omega)
    rw [HH.out]
    clear HH h hn
    have HS := Lib.hid hs
    clear hs
    have h0 : 0 ≤ i := by omega
    go_enter Try.func52, Try.ntmps52
    go_wp2_with (go_at_call 35; refine HS.out.mono ?_; rintro e w' ⟨rfl, rfl⟩)
    go_ret
    exact ⟨rfl, rfl⟩
set_option maxHeartbeats 400000 in
theorem has_nil (i : Int) (w : World) : Calls Try.prog 52 #[.pointer none, .int .i64 i] w fun e w' => e = .returned (.bool false) ∧ w = w' := by
  by_cases hi : i < 0
  · exact has_low_ _ i w hi
  · have h0 : 0 ≤ i := by omega
    go_enter Try.func52, Try.ntmps52
    go_wp2_with (go_at_call 35; refine (sectors_nil _).mono ?_; rintro e w' ⟨rfl, rfl⟩)
    go_ret
    exact ⟨by congr 2; simp; omega, rfl⟩
set_option maxHeartbeats 400000 in
theorem reach_any (h : Dk0 w g bO cO bL cL vW os ls ws m) (i : Int) :
    Calls Try.prog 44 #[.pointer (some ⟨g, 0, none⟩), .int .i64 i] w fun e w' => e = .returned (.int .i64 (readE m i)) ∧ w = w' := by
  by_cases hd : m.down = true
  · have HR := Lib.hid (ready_down h hd)
    have HE : Hid (readE m i = 9) := Lib.hid (by unfold readE; rw [if_pos hd])
    rw [HE.out]
    clear h hd HE
    go_enter Try.func44, Try.ntmps44
    go_wp2_with (go_at_call 51; refine HR.out.mono ?_; rintro e w' ⟨rfl, rfl⟩)
    go_ret
    exact ⟨rfl, rfl⟩
  · have hd0 : m.down = false := by simpa using hd
    have HR := Lib.hid (ready_up h hd0)
    have HH := Lib.hid (has_any h i)
    by_cases hh : m.has i = true
    · have HE : Hid (readE m i = 0) := Lib.hid (by unfold readE; rw [if_neg hd, if_neg (by simp [hh])])
      rw [HE.out]
      rw [hh] at HH
      clear h hd hd0 HE hh
      go_enter Try.func44, Try.ntmps44
      go_wp2_with (first | (go_at_call 51; refine HR.out.mono ?_; rintro e w' ⟨rfl, rfl⟩) | (go_at_call 52; refine HH.out.mono ?_; rintro e w' ⟨rfl, rfl⟩))
      go_ret
      exact ⟨rfl, rfl⟩
    · have hh0 : m.has i = false := by simpa using hh
      have HE : Hid (readE m i = 7) := Lib.hid (by unfold readE; rw [if_neg hd, if_pos hh0])
      rw [HE.out]
      rw [hh0] at HH
      clear h hd hd0 HE hh hh0
      go_enter Try.func44, Try.ntmps44
      go_wp2_with (first | (go_at_call 51; refine HR.out.mono ?_; rintro e w' ⟨rfl, rfl⟩) | (go_at_call 52; refine HH.out.mono ?_; rintro e w' ⟨rfl, rfl⟩))
      go_ret
      exact ⟨rfl, rfl⟩
set_option maxHeartbeats 400000 in
theorem reach_nil (i : Int) (w : World) : Calls Try.prog 44 #[.pointer none, .int .i64 i] w fun e w' => e = .returned (.int .i64 1) ∧ w = w' := by
  go_enter Try.func44, Try.ntmps44
  go_wp2_with (go_at_call 51; refine (ready_nil _).mono ?_; rintro e w' ⟨rfl, rfl⟩)
  go_ret
  exact ⟨rfl, rfl⟩
end
end Go.Proofs.Ytnjlhallkgacjaa
