/- A fuse that burns; a fuse that is laid. -/
import Derived.Test.YtnjlhallkgacjaaSmall
namespace Go.Proofs.Ytnjlhallkgacjaa
open Go.RowKit

/-- A call on a disk that leaves its rows where they are. -/
def Stays (g bO cO bL cL : Nat) (vW : Value) (os ls : List Value) (ws : List Vw) (m : Dsk) (w w' : World) : Prop :=
  Dk0 w' g bO cO bL cL vW os ls ws m ∧ Chg (foot g bO bL vW) (foot g bO bL vW) w w'
section
variable {w : World} {g bO cO bL cL : Nat} {vW : Value} {os ls : List Value} {ws : List Vw} {m : Dsk}
theorem Stays.refl (h : Dk0 w g bO cO bL cL vW os ls ws m) : Stays g bO cO bL cL vW os ls ws m w w := ⟨h, Chg.refl _ _⟩
def burnE (m : Dsk) : Int := if m.fuse = 0 then 9 else 0
def burnM (m : Dsk) : Dsk := if m.fuse = 0 then burnt m else burns m
set_option maxHeartbeats 400000 in
theorem burn_any (h : Dk0 w g bO cO bL cL vW os ls ws m) (hn : m.done ≤ 4611686018427387904) :
    Calls Try.prog 45 #[.pointer (some ⟨g, 0, none⟩)] w fun e w' => e = .returned (.int .i64 (burnE m)) ∧ Stays g bO cO bL cL vW os ls ws (burnM m) w w' := by
  have hf := h.fz
  have hc3 := h.c3
  have hc5 := h.c5
  have h0 := h.ok.fuse0
  have h1 := h.ok.fuse1
  by_cases hz : m.fuse = 0
  · have HE : Hid (burnE m = 9) := Lib.hid (by unfold burnE; rw [if_pos hz])
    have HM : Hid (Stays g bO cO bL cL vW os ls ws (burnM m) w (w.setCell ⟨g, 4, none⟩ (.bool true))) := Lib.hid (by
      unfold burnM; rw [if_pos hz]; exact ⟨h.setDown true, Dk0.chgG _ _ _⟩)
    have hc4 := h.c4
    have f4 := hf 4
    rw [HE.out]
    rw [hz] at hc3
    clear hz h hf hc5 HE
    go_enter Try.func45, Try.ntmps45
    go_wp2_with fail
    go_ret
    exact ⟨rfl, HM.out⟩
  · have HE : Hid (burnE m = 0) := Lib.hid (by unfold burnE; rw [if_neg hz])
    have f3 := hf 3
    have f5 := hf 5
    rw [HE.out]
    by_cases h2 : m.fuse = -1
    · have HM : Hid (Stays g bO cO bL cL vW os ls ws (burnM m) w (w.setCell ⟨g, 5, none⟩ (.int .i64 ((m.done : Int) + 1)))) := Lib.hid (by
        unfold burnM burns; rw [if_neg hz, if_pos h2]
        have h3 := h.setDone (m.done + 1)
        rw [← h2]
        exact ⟨h3, Dk0.chgG _ _ _⟩)
      rw [h2] at hc3
      clear hz h hf h2 HE
      generalize m.done = dn at *
      go_enter Try.func45, Try.ntmps45
      go_wp2_with fail
      go_ret
      exact ⟨rfl, HM.out⟩
    · have HM : Hid (Stays g bO cO bL cL vW os ls ws (burnM m) w ((w.setCell ⟨g, 3, none⟩ (.int .i64 (m.fuse - 1))).setCell ⟨g, 5, none⟩ (.int .i64 ((m.done : Int) + 1)))) := Lib.hid (by
        unfold burnM burns; rw [if_neg hz, if_neg h2]
        exact ⟨(h.setFuse (m.fuse - 1) (by omega) (by omega)).setDone (m.done + 1), (Dk0.chgG _ _ _).trans (Dk0.chgG _ _ _)⟩)
      have hd1 : (m.fuse == 0) = false := by simpa using hz
      have hd2 : (m.fuse != -1) = true := by simpa using h2
      have h3 : 1 ≤ m.fuse := by omega
      clear hz h hf h2 HE h0
      generalize m.done = dn at *
      generalize m.fuse = fu at *
      go_enter Try.func45, Try.ntmps45
      go_wp2_with fail
      go_ret
      exact ⟨rfl, HM.out⟩
end
end Go.Proofs.Ytnjlhallkgacjaa
