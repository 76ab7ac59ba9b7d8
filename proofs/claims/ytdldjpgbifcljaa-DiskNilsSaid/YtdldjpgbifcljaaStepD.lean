/- A step on a disk and on another one of the document's: both go as they should. -/
import Derived.Test.YtdldjpgbifcljaaStepD1
import Derived.Test.YtdldjpgbifcljaaStepD2
import Derived.Test.YtdldjpgbifcljaaStepD3
import Derived.Test.YtdldjpgbifcljaaStepD4
import Derived.Test.YtdldjpgbifcljaaStep
namespace Go.Proofs.Ytdldjpgbifcljaa
open Go.RowKit

theorem stepd_any {w : World} {g : Nat} {F : List Nat} {m md : Dsk} {x : Value} (o : Opv) (hD : Dk w g F md) (hR : Ref w x m) (hO : OpB o) (hK : Kp w o.p o.nk o.keep) (hOff : 0 < o.nk → Off F o.p) (hm : m.done ≤ 4611686018427387904 ∧ m.row.length ≤ 1099511627776 ∧ m.out.length ≤ 1099511627776) (hmd : md.done ≤ 4611686018427387904 ∧ md.row.length ≤ 1099511627776 ∧ md.out.length ≤ 1099511627776) :
    Calls Try.prog 13 #[.pointer (some ⟨g, 0, none⟩), x, o.val] w (EndsD w g F (opM md o) (opM m o)) := by
  obtain ⟨vL, vR, rfl, h⟩ := hR
  obtain ⟨⟨q1, c1, rfl⟩, q2, c2, rfl⟩ := h.forms
  have HS := Lib.hid (SW.startD (o := o) hD h)
  have HE : Hid (m.fuse = m.fuse ∧ m.down = m.down ∧ m.done = m.done) := Lib.hid ⟨rfl, rfl, rfl⟩
  by_cases h0 : o.kind = 0
  · have e : ∀ m, opM m o = putM m o.at_ (fillS o) := fun m => by unfold opM; rw [if_pos h0]
    rw [e, e]
    exact stepd_put o h0 hO hK hOff hm hmd HS HE
  · by_cases h1 : o.kind = 1
    · have e : ∀ m, opM m o = barM m := fun m => by unfold opM; rw [if_neg h0, if_pos h1]
      rw [e, e]
      exact stepd_bar o h1 hO hK hOff hm hmd HS HE
    · by_cases h2 : o.kind = 2
      · have e : ∀ m, opM m o = fuseM m o.n := fun m => by unfold opM; rw [if_neg h0, if_neg h1, if_pos h2]
        rw [e, e]
        exact stepd_fuse o h2 hO hK hOff hm hmd HS HE
      · by_cases h3 : o.kind = 3
        · have e : ∀ m, opM m o = failM m (keepB o.nk o.keep) o.torn o.n := fun m => by unfold opM; rw [if_neg h0, if_neg h1, if_neg h2, if_pos h3]
          rw [e, e]
          exact stepd_fail o h3 hO hK hOff hm hmd HS HE
        · by_cases h4 : o.kind = 4
          · have e : ∀ m, opM m o = startM m := fun m => by unfold opM; rw [if_neg h0, if_neg h1, if_neg h2, if_neg h3, if_pos h4]
            rw [e, e]
            exact stepd_start o h4 HS HE
          · have e : ∀ m, opM m o = m := fun m => by unfold opM; rw [if_neg h0, if_neg h1, if_neg h2, if_neg h3, if_neg h4]
            rw [e, e]
            exact stepd_read o ⟨h0, h1, h2, h3, h4⟩ hO hK hOff hm hmd HS HE
/-- How far a disk is behind some more steps. -/
theorem runM_more (m : Dsk) (no k : Nat) (h : Near m no k) (os : Nat → Opv) (i : Nat) : Near (runM m os i) no (k + i) := by
  induction i with
  | zero => exact h
  | succ i ih => exact ih.op _
end Go.Proofs.Ytdldjpgbifcljaa
