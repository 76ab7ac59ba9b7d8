/- A step of the law: the disk goes as the document's, and answers as it. -/
import Derived.Test.YtdldjpgbifcljaaStep2
import Derived.Test.YtdldjpgbifcljaaStep3
import Derived.Test.YtdldjpgbifcljaaStep4
namespace Go.Proofs.Ytdldjpgbifcljaa
open Go.RowKit

theorem step_any {w : World} {g : Nat} {F : List Nat} {m : Dsk} {x : Value} (o : Opv) (hD : Dk w g F m) (hR : Ref w x m) (hO : OpB o) (hK : Kp w o.p o.nk o.keep) (hOff : 0 < o.nk → Off F o.p) (hm : m.done ≤ 4611686018427387904 ∧ m.row.length ≤ 1099511627776 ∧ m.out.length ≤ 1099511627776) :
    Calls Try.prog 13 #[.pointer (some ⟨g, 0, none⟩), x, o.val] w (Ends w g F (opM m o)) := by
  obtain ⟨vL, vR, rfl, h⟩ := hR
  obtain ⟨⟨q1, c1, rfl⟩, q2, c2, rfl⟩ := h.forms
  have HS := Lib.hid (SW.start (o := o) hD h)
  have HE : Hid (m.fuse = m.fuse ∧ m.down = m.down ∧ m.done = m.done) := Lib.hid ⟨rfl, rfl, rfl⟩
  by_cases h0 : o.kind = 0
  · rw [show opM m o = putM m o.at_ (fillS o) by unfold opM; rw [if_pos h0]]
    exact step_put o h0 hO hK hOff hm HS HE
  · by_cases h1 : o.kind = 1
    · rw [show opM m o = barM m by unfold opM; rw [if_neg h0, if_pos h1]]
      exact step_bar o h1 hO hK hOff hm HS HE
    · by_cases h2 : o.kind = 2
      · rw [show opM m o = fuseM m o.n by unfold opM; rw [if_neg h0, if_neg h1, if_pos h2]]
        exact step_fuse o h2 hO hK hOff hm HS HE
      · by_cases h3 : o.kind = 3
        · rw [show opM m o = failM m (keepB o.nk o.keep) o.torn o.n by unfold opM; rw [if_neg h0, if_neg h1, if_neg h2, if_pos h3]]
          exact step_fail o h3 hO hK hOff hm HS HE
        · by_cases h4 : o.kind = 4
          · rw [show opM m o = startM m by unfold opM; rw [if_neg h0, if_neg h1, if_neg h2, if_neg h3, if_pos h4]]
            exact step_start o h4 HS HE
          · rw [show opM m o = m by unfold opM; rw [if_neg h0, if_neg h1, if_neg h2, if_neg h3, if_neg h4]]
            exact step_read o ⟨h0, h1, h2, h3, h4⟩ hO hK hOff hm HS HE
/-- How far a disk is behind some steps. -/
structure Near (m : Dsk) (no i : Nat) : Prop where
  out : m.out.length = no
  done : m.done ≤ i
  row : m.row.length ≤ i
theorem Near.op {m : Dsk} {no i : Nat} (h : Near m no i) (o : Opv) : Near (opM m o) no (i + 1) := by
  have hs : Near m no (i + 1) := ⟨h.out, Nat.le_succ_of_le h.done, Nat.le_succ_of_le h.row⟩
  have hl := last_len m
  have h1 := h.out
  have h2 := h.done
  have h3 := h.row
  unfold opM
  split
  · unfold putM
    split
    · exact hs
    · split
      · exact hs
      · split
        · exact hs
        · split
          · exact ⟨h1, Nat.le_succ_of_le h2, Nat.le_succ_of_le h3⟩
          · exact ⟨h1, Nat.succ_le_succ h2, by show (m.row ++ [_]).length ≤ _; rw [List.length_append]; exact Nat.succ_le_succ h3⟩
  · split
    · unfold barM
      split
      · exact hs
      · split
        · exact ⟨h1, Nat.le_succ_of_le h2, Nat.le_succ_of_le h3⟩
        · exact ⟨hl.trans h1, Nat.succ_le_succ h2, Nat.zero_le _⟩
    · split
      · exact ⟨h1, Nat.le_succ_of_le h2, Nat.le_succ_of_le h3⟩
      · split
        · exact ⟨(failN_len _ _ _ _).trans h1, Nat.le_succ_of_le h2, Nat.zero_le _⟩
        · split
          · unfold startM
            split
            · exact ⟨h1, Nat.le_succ_of_le h2, Nat.zero_le _⟩
            · exact hs
          · exact hs
/-- The disk behind the first i steps. -/
def runM (m : Dsk) (os : Nat → Opv) : Nat → Dsk
  | 0 => m
  | i + 1 => opM (runM m os i) (os i)
theorem runM_near (n : Nat) (os : Nat → Opv) (i : Nat) : Near (runM (newM n) os i) n i := by
  induction i with
  | zero => exact ⟨List.length_replicate, Nat.le_refl _, Nat.le_refl _⟩
  | succ i ih => exact ih.op _
end Go.Proofs.Ytdldjpgbifcljaa
