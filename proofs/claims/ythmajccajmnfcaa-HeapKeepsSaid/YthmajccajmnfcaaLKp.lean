/- An object that is there as it was. -/
import Derived.Test.YthmajccajmnfcaaLMade
set_option maxRecDepth 20000
set_option linter.unusedSimpArgs false
namespace Go.Proofs.Ythmajccajmnfcaa
open Go.RowKit

/-- At this place is this object. -/
def Kp (L : Pls) (o : Ob) (p : Nat) : Prop := ∃ c, clAt L p = some c ∧ c.o = o
section
variable {m : Hm} {o o2 : Ob} {p : Nat} {v : Int × Int}
theorem toNat_ne {v : Int × Int} {p : Nat} (hv : hasP m.L v = true) (h : v ≠ (8, (p : Int))) : p ≠ v.2.toNat := by
  obtain ⟨h1, h2, -⟩ := hasP_iff.1 hv
  intro e
  refine h (Prod.ext h1 ?_)
  show v.2 = (p : Int)
  omega
theorem Kp.set_ {L : Pls} {i : Nat} {c : Option Cl} (h : Kp L o p) (hi : i < L.length) (hn : p ≠ i) : Kp (L.set i c) o p := by
  obtain ⟨d, hd, e⟩ := h
  exact ⟨d, by rw [clAt_set hi, if_neg hn]; exact hd, e⟩
theorem Kp.gap {L : Pls} (h : Kp L o p) : p ≠ gapH L := by
  obtain ⟨d, hd, -⟩ := h
  rintro rfl
  rw [gapH_none] at hd; cases hd
theorem Kp.add (h : Kp m.L o p) : Kp (addM m o2).L o p := by
  unfold addM
  split
  · obtain ⟨d, hd, e⟩ := h
    exact ⟨d, by
      show clAt (putH m.L (gapH m.L) (newCl o2)) p = some d
      rw [clAt_put (gapH_le _), if_neg (Kp.gap ⟨d, hd, e⟩)]; exact hd, e⟩
  · exact h
theorem Kp.other (h : Kp m.L o p) (h0 : addE m o2 = 0) : addV m o2 ≠ (8, (p : Int)) := by
  unfold addV
  rw [if_pos h0]
  intro e
  have e2 : ((gapH m.L : Nat) : Int) = (p : Int) := congrArg Prod.snd e
  exact h.gap (by omega)
theorem Kp.set (h : Kp m.L o p) {i : Int} {y : Int × Int} (hn : v ≠ (8, (p : Int))) : Kp (setM m v i y).L o p := by
  rcases setM_cases m v i y with e | ⟨c, hv, hc, e⟩
  · rw [e]; exact h
  · rw [e]; exact h.set_ (clAt_some hc) (toNat_ne hv hn)
theorem Kp.setB (h : Kp m.L o p) {i : Int} {y : Nat} (hn : v ≠ (8, (p : Int))) : Kp (setBM m v i y).L o p := by
  rcases setBM_cases m v i y with e | ⟨c, hv, hc, e⟩
  · rw [e]; exact h
  · rw [e]; exact h.set_ (clAt_some hc) (toNat_ne hv hn)
theorem Kp.drop (h : Kp m.L o p) (hn : v ≠ (8, (p : Int))) : Kp (dropM m v).L o p := by
  rcases dropM_cases m v with e | ⟨d, hv, hd, e⟩
  · rw [e]; exact h
  · rw [e, drop_L]; exact h.set_ (clAt_some hd) (toNat_ne hv hn)
theorem Kp.has {L : Pls} (h : Kp L o p) : hasP L (8, (p : Int)) = true := by
  obtain ⟨d, hd, -⟩ := h
  exact hasP_iff.2 ⟨rfl, Int.natCast_nonneg p, d, by rw [show (8, (p : Int)).2.toNat = p from by simp]; exact hd⟩
theorem Kp.ob {L : Pls} (h : Kp L o p) : obAt L (8, (p : Int)) = o := by
  obtain ⟨d, hd, e⟩ := h
  rw [obAt_some (Kp.has ⟨d, hd, e⟩) (c := d) (by rw [show (8, (p : Int)).2.toNat = p from by simp]; exact hd), e]
theorem Kp.gone (h : Kp m.L o p) : hasP (dropM m (8, (p : Int))).L (8, (p : Int)) = false := by
  obtain ⟨d, hd, e2⟩ := h
  have hd2 : clAt m.L (8, (p : Int)).2.toNat = some d := by rw [show (8, (p : Int)).2.toNat = p from by simp]; exact hd
  have e : dropM m (8, (p : Int)) = (m.bare (8, (p : Int)).2.toNat d).drop (8, (p : Int)).2.toNat := by
    unfold dropM
    rw [if_pos (Kp.has ⟨d, hd, e2⟩), hd2]
  rw [e, drop_L]
  unfold hasP
  rw [clAt_set (clAt_some hd2), if_pos rfl]
  simp
theorem Kp.lt {L : Pls} (h : Kp L o p) : p < L.length := by obtain ⟨d, hd, -⟩ := h; exact clAt_some hd
/-- It is added. -/
theorem kp_new (h0 : addE m o = 0) : ∃ p : Nat, addV m o = (8, (p : Int)) ∧ Kp (addM m o).L o p ∧ (hasP (addM m o).L (8, (p : Int)) && ((clAt (addM m o).L (p : Int).toNat).map Cl.ch).getD false) = true := by
  have e : clAt (addM m o).L (gapH m.L) = some (newCl o) := by
    unfold addM
    rw [if_pos h0]
    show clAt (putH m.L (gapH m.L) (newCl o)) (gapH m.L) = _
    rw [clAt_put (gapH_le _), if_pos rfl]
  have hk : Kp (addM m o).L o (gapH m.L) := ⟨_, e, rfl⟩
  refine ⟨gapH m.L, if_pos h0, hk, ?_⟩
  rw [hk.has, show (((gapH m.L : Nat) : Int)).toNat = gapH m.L from by simp, e]
  rfl
theorem addE_cases (m : Hm) (o : Ob) : addE m o = 0 ∨ (addV m o = (0, 0) ∧ (addE m o = 1 ∨ addE m o = 8)) := by
  by_cases h : addE m o = 0
  · exact .inl h
  · refine .inr ⟨if_neg h, ?_⟩
    unfold addE at h ⊢
    split
    · exact .inl rfl
    · split
      · exact .inr rfl
      · rename_i h1 h2
        rw [if_neg h1, if_neg h2] at h
        exact absurd rfl h
end
end Go.Proofs.Ythmajccajmnfcaa
