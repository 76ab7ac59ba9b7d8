/- The law's memory and the document's row, side by side. -/
import Derived.Test.YtekmboolfjicbaaRSetB
import Derived.Test.YtekmboolfjicbaaLNew
set_option maxRecDepth 20000
set_option linter.unusedSimpArgs false
namespace Go.Proofs.Ytekmboolfjicbaa
open Go.RowKit

theorem here_put {L : Pls} {i : Nat} {c : Cl} (h : Here L) (hi : i ≤ L.length) (hc : c.away = false) : Here (putH L i c) := by
  intro j d hd
  rw [clAt_put hi] at hd
  split at hd
  · cases hd; exact hc
  · exact h j d hd
theorem sm_put {L : Pls} {i : Nat} {c : Cl} (h : Sm L) (hi : i ≤ L.length) (hc : c.o.vs.length ≤ 256 ∧ c.o.bs.length ≤ 4096) : Sm (putH L i c) := by
  intro j d hd
  rw [clAt_put hi] at hd
  split at hd
  · cases hd; exact hc
  · exact h j d hd
theorem here_set {L : Pls} {i : Nat} {c : Option Cl} (h : Here L) (hi : i < L.length) (hc : ∀ d, c = some d → d.away = false) : Here (L.set i c) := by
  intro j d hd
  rw [clAt_set hi] at hd
  split at hd
  · exact hc d hd
  · exact h j d hd
theorem sm_set {L : Pls} {i : Nat} {c : Option Cl} (h : Sm L) (hi : i < L.length) (hc : ∀ d, c = some d → d.o.vs.length ≤ 256 ∧ d.o.bs.length ≤ 4096) : Sm (L.set i c) := by
  intro j d hd
  rw [clAt_set hi] at hd
  split at hd
  · exact hc d hd
  · exact h j d hd
theorem sm_setR {L : Pls} {i : Nat} {c : Option Cl} (h : Sm L) (hi : i ≤ L.length) (hc : ∀ d, c = some d → d.o.vs.length ≤ 256 ∧ d.o.bs.length ≤ 4096) : Sm (setR L i c) := by
  intro j d hd
  rw [clAt_setR hi] at hd
  split at hd
  · exact hc d hd
  · exact h j d hd
theorem mayO_len {L : Pls} {o : Ob} (h : mayO L o = true) : o.vs.length ≤ 256 ∧ o.bs.length ≤ 4096 := by
  unfold mayO at h
  simp only [Bool.and_eq_true, decide_eq_true_iff] at h
  have h1 := highV_le o.k
  have h2 : highB o.k ≤ 4096 := by unfold highB; split <;> omega
  omega
theorem rMay_len {L : Pls} {o : Ob} (h : rMay L o = true) : o.vs.length ≤ 256 ∧ o.bs.length ≤ 4096 := by
  unfold rMay at h
  split at h
  · cases h
  · omega
theorem addE_may {m : Hm} {o : Ob} (h : addE m o = 0) : mayO m.L o = true := by
  unfold addE at h
  split at h
  · omega
  · rename_i h2; simpa using h2
theorem add_here {m : Hm} {o : Ob} (h : Here m.L) : Here (addM m o).L := by
  unfold addM
  split
  · exact here_put h (gapH_le _) rfl
  · exact h
theorem add_sm {m : Hm} {o : Ob} (h : Sm m.L) : Sm (addM m o).L := by
  unfold addM
  split
  · rename_i h0; exact sm_put h (gapH_le _) (mayO_len (addE_may h0))
  · exact h
theorem setM_cases (m : Hm) (v : Int × Int) (i : Int) (y : Int × Int) : setM m v i y = m ∨ ∃ c, hasP m.L v = true ∧ clAt m.L v.2.toNat = some c ∧ setM m v i y = m.set v.2.toNat (setC c i y) := by
  unfold setM
  split
  · cases hc : clAt m.L v.2.toNat with
    | none => exact .inl rfl
    | some c =>
      rename_i h0
      refine .inr ⟨c, ?_, rfl, rfl⟩
      unfold setE at h0
      split at h0
      · omega
      · rename_i h2; simpa using h2
  · exact .inl rfl
theorem setC_len (c : Cl) (i : Int) (y : Int × Int) : (setC c i y).o.vs.length = c.o.vs.length ∧ (setC c i y).o.bs.length = c.o.bs.length := ⟨List.length_set .., rfl⟩
theorem set_here {m : Hm} {v : Int × Int} {i : Int} {y : Int × Int} (h : Here m.L) : Here (setM m v i y).L := by
  rcases setM_cases m v i y with e | ⟨c, _, hc, e⟩
  · rw [e]; exact h
  · rw [e]; exact here_set h (clAt_some hc) fun d hd => by cases hd; exact h _ c hc
theorem set_sm {m : Hm} {v : Int × Int} {i : Int} {y : Int × Int} (h : Sm m.L) : Sm (setM m v i y).L := by
  rcases setM_cases m v i y with e | ⟨c, _, hc, e⟩
  · rw [e]; exact h
  · rw [e]; exact sm_set h (clAt_some hc) fun d hd => by
      cases hd
      obtain ⟨e1, e2⟩ := setC_len c i y
      rw [e1, e2]; exact h _ c hc
theorem dropM_cases (m : Hm) (v : Int × Int) : dropM m v = m ∨ ∃ d, hasP m.L v = true ∧ clAt m.L v.2.toNat = some d ∧ dropM m v = (m.bare v.2.toNat d).drop v.2.toNat := by
  unfold dropM
  split
  · rename_i hv
    cases hc : clAt m.L v.2.toNat with
    | none => exact .inl rfl
    | some d => exact .inr ⟨d, hv, rfl, rfl⟩
  · exact .inl rfl
theorem drop_L {m : Hm} {i : Nat} {d : Cl} : ((m.bare i d).drop i).L = m.L.set i none := by
  show (m.L.set i _).set i none = m.L.set i none
  rw [List.set_set]
theorem drop_here {m : Hm} {v : Int × Int} (h : Here m.L) : Here (dropM m v).L := by
  rcases dropM_cases m v with e | ⟨d, _, hd, e⟩
  · rw [e]; exact h
  · rw [e, drop_L]; exact here_set h (clAt_some hd) fun d hd => by cases hd
theorem drop_sm {m : Hm} {v : Int × Int} (h : Sm m.L) : Sm (dropM m v).L := by
  rcases dropM_cases m v with e | ⟨d, _, hd, e⟩
  · rw [e]; exact h
  · rw [e, drop_L]; exact sm_set h (clAt_some hd) fun d hd => by cases hd
theorem radd_sm {L : Pls} {lim : Int} {o : Ob} (h : Sm L) : Sm (rAddL L lim o) := by
  unfold rAddL
  split
  · rename_i h0
    refine sm_setR h (gapH_le _) fun d hd => ?_
    cases hd
    refine rMay_len (L := L) (o := o) ?_
    unfold rAddE at h0
    split at h0
    · omega
    · rename_i h2; simpa using h2
  · exact h
theorem radd_len {L : Pls} {lim : Int} {o : Ob} (h : (L.length : Int) ≤ lim) : ((rAddL L lim o).length : Int) ≤ lim := by
  unfold rAddL
  split
  · rename_i h0
    rw [setR_len (gapH_le _)]
    have hg := gapH_le L
    have hlv : (liveN L : Int) < lim := by
      unfold rAddE at h0
      split at h0
      · omega
      · split at h0
        · omega
        · omega
    rcases Nat.lt_or_ge (gapH L) L.length with h1 | h1
    · omega
    · have h2 : gapH L = L.length := by omega
      have := liveN_full h2
      omega
  · exact h
theorem rset_sm {L : Pls} {v : Int × Int} {i : Int} {y : Int × Int} (h : Sm L) : Sm (rSetL L v i y) := by
  unfold rSetL
  split
  · cases hc : clAt L v.2.toNat with
    | none =>
      rename_i h0
      exfalso
      unfold setE at h0
      split at h0
      · omega
      · rename_i h2
        obtain ⟨_, _, c, hc2⟩ := hasP_iff.1 (by simpa using h2)
        rw [hc] at hc2; cases hc2
    | some c =>
      refine sm_setR h (Nat.le_of_lt (clAt_some hc)) fun d hd => ?_
      have hd2 : d = setC c i y := by simpa using hd.symm
      obtain ⟨e1, e2⟩ := setC_len c i y
      rw [hd2, e1, e2]; exact h _ c hc
  · exact h
theorem rset_len {L : Pls} {v : Int × Int} {i : Int} {y : Int × Int} : (rSetL L v i y).length = L.length := by
  unfold rSetL
  split
  · rename_i h0
    unfold setE at h0
    split at h0
    · omega
    · rename_i h2
      obtain ⟨_, _, c, hc2⟩ := hasP_iff.1 (by simpa using h2)
      have := clAt_some hc2
      rw [setR_len (by omega)]; omega
  · rfl
theorem rdrop_sm {L : Pls} {v : Int × Int} (h : Sm L) : Sm (rDropL L v) := by
  unfold rDropL
  split
  · rename_i hv
    obtain ⟨_, _, c, hc2⟩ := hasP_iff.1 hv
    exact sm_setR h (Nat.le_of_lt (clAt_some hc2)) fun d hd => by cases hd
  · exact h
theorem rdrop_len {L : Pls} {v : Int × Int} : (rDropL L v).length = L.length := by
  unfold rDropL
  split
  · rename_i hv
    obtain ⟨_, _, c, hc2⟩ := hasP_iff.1 hv
    have := clAt_some hc2
    rw [setR_len (by omega)]; omega
  · rfl
/-- The blocks of the memory, and some others. -/
abbrev Fx (F X : Nat → Prop) : Nat → Prop := fun k => F k ∨ X k
/-- The memory and the row, amid the law's steps; X: blocks that the row doesn't lie in. -/
structure Jt (w : World) (g : Nat) (F X : Nat → Prop) (m : Hm) (vl : Value) (L : Pls) (lim : Int) : Prop where
  hep : Hep w g F m
  row : ∃ W, RHp w (Fx F X) vl W L
  here : Here m.L
  sm : Sm m.L
  smx : Sm L
  len : (L.length : Int) ≤ lim
  lim : lim ≤ 16000
  xlt : ∀ k, X k → k < w.heap.size
section
variable {w w' : World} {g : Nat} {F F' X : Nat → Prop} {m m' : Hm} {vl vl' : Value} {L L' : Pls} {lim : Int}
theorem Jt.flt (h : Jt w g F X m vl L lim) : ∀ k, Fx F X k → k < w.heap.size := fun k hk => hk.elim (h.hep.lt k) (h.xlt k)
theorem Jt.below (h : Jt w g F X m vl L lim) (hb : Below w.heap.size w w') : Jt w' g F X m vl L lim := by
  obtain ⟨W, hr⟩ := h.row
  exact ⟨h.hep.below hb, ⟨W, hr.below hb⟩, h.here, h.sm, h.smx, h.len, h.lim, fun k hk => Nat.lt_of_lt_of_le (h.xlt k hk) hb.size⟩
end
/-- What a step leaves. -/
def StepR (w w' : World) (g : Nat) (F X : Nat → Prop) (lim : Int) (e : Ending) : Prop := ∃ vl' b F' m' L', e = .returned (.tuple #[.agg #[vl', .int .i64 lim], .bool b]) ∧ Jt w' g F' X m' vl' L' lim ∧ Chp F F' w w'
end Go.Proofs.Ytekmboolfjicbaa
