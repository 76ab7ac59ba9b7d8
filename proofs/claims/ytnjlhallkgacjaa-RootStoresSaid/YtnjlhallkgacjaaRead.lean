/- A start; what is read, and what is out. -/
import Derived.Test.YtnjlhallkgacjaaFail
namespace Go.Proofs.Ytnjlhallkgacjaa
open Go.RowKit

theorem strB_nil : strB [] = ⟨#[]⟩ := rfl
section
variable {w : World} {g bO cO bL cL : Nat} {vW : Value} {os ls : List Value} {ws : List Vw} {m : Dsk}
set_option maxHeartbeats 400000 in
theorem read_bad (h : Dk0 w g bO cO bL cL vW os ls ws m) (i : Int) (hE : readE m i ≠ 0) :
    Calls Try.prog 36 #[.pointer (some ⟨g, 0, none⟩), .int .i64 i] w fun e w' => e = .returned (.tuple #[.string (strB (readS m i)), .int .i64 (readE m i)]) ∧ w = w' := by
  have HS : Hid (strB (readS m i) = ⟨#[]⟩) := Lib.hid (by
    unfold readE at hE
    unfold readS
    split
    · rfl
    · split
      · rfl
      · rename_i h1 h2
        rw [if_neg h1, if_neg h2] at hE
        exact absurd rfl hE)
  have HR := Lib.hid (reach_any h i)
  rw [HS.out]
  generalize readE m i = E at *
  have hd : (E != 0) = true := by simpa using hE
  clear h hE
  go_enter Try.func36, Try.ntmps36
  go_wp2_with (go_at_call 44; refine HR.out.mono ?_; rintro e w' ⟨rfl, rfl⟩)
  go_ret2
  exact ⟨rfl, rfl⟩
set_option maxHeartbeats 400000 in
theorem read_good (h : Dk0 w g bO cO bL cL vW os ls ws m) (k : Nat) (hd : m.down = false) (hk : k < m.out.length) :
    Calls Try.prog 36 #[.pointer (some ⟨g, 0, none⟩), .int .i64 (k : Int)] w fun e w' => e = .returned (.tuple #[.string (strB (sec m.last k)), .int .i64 0]) ∧ w = w' := by
  have hE : readE m (k : Int) = 0 := by unfold readE; rw [if_neg (by simp [hd]), if_neg (by rw [has_true (by omega) (by omega)]; simp)]
  have hr := reach_any h (k : Int)
  rw [hE] at hr
  have HR := Lib.hid hr
  have hc1 := h.c1
  have hs := h.sl.at_ k (by rw [last_len]; exact hk)
  obtain ⟨b, c, e, hB, _⟩ := hs.bys
  have hc := h.rl.cellAt k (by omega)
  rw [vAt_get (by rw [h.sl.len, last_len]; exact hk), e] at hc
  have hconv := hB.conv c
  have hkl : (k : Int) < (m.out.length : Int) := by omega
  clear h hE hr hs hB e
  generalize sec m.last k = s at *
  generalize m.out.length = n at *
  go_enter Try.func36, Try.ntmps36
  go_wp2_with (go_at_call 44; refine HR.out.mono ?_; rintro e w' ⟨rfl, rfl⟩)
  go_ret2
  exact ⟨rfl, rfl⟩
theorem read_any (h : Dk0 w g bO cO bL cL vW os ls ws m) (i : Int) :
    Calls Try.prog 36 #[.pointer (some ⟨g, 0, none⟩), .int .i64 i] w fun e w' => e = .returned (.tuple #[.string (strB (readS m i)), .int .i64 (readE m i)]) ∧ w = w' := by
  by_cases hE : readE m i = 0
  · have hd : m.down = false := by
      cases hd : m.down with
      | false => rfl
      | true => unfold readE at hE; rw [if_pos hd] at hE; omega
    have hh : m.has i = true := by
      cases hh : m.has i with
      | true => rfl
      | false => unfold readE at hE; rw [if_neg (by simp [hd]), if_pos hh] at hE; omega
    have h0 := hh
    unfold Dsk.has at h0
    simp only [Bool.and_eq_true, decide_eq_true_eq] at h0
    obtain ⟨k, rfl⟩ := Int.eq_ofNat_of_zero_le h0.1
    rw [hE, show readS m (k : Int) = sec m.last k by unfold readS; rw [if_neg (by simp [hd]), if_neg (by simp [hh])]; rfl]
    exact read_good h k hd (by omega)
  · exact read_bad h i hE
set_option maxHeartbeats 400000 in
theorem read_nil (i : Int) (w : World) : Calls Try.prog 36 #[.pointer none, .int .i64 i] w fun e w' => e = .returned (.tuple #[.string ⟨#[]⟩, .int .i64 1]) ∧ w = w' := by
  go_enter Try.func36, Try.ntmps36
  go_wp2_with (go_at_call 44; refine (reach_nil _ _).mono ?_; rintro e w' ⟨rfl, rfl⟩)
  go_ret2
  exact ⟨rfl, rfl⟩
set_option maxHeartbeats 400000 in
theorem fail_nil (p : Option Addr) (n c : Nat) (t a : Int) (w : World) : Calls Try.prog 24 #[.pointer none, .slice p n c, .int .i64 t, .int .i64 a] w fun e w' => e = .returned (.tuple #[]) ∧ w = w' := by
  go_enter Try.func24, Try.ntmps24
  go_wp2_with fail
  refine bodyPost_ret (results_none rfl _ _ _) rfl ?_
  exact ⟨rfl, rfl⟩
end
end Go.Proofs.Ytnjlhallkgacjaa
