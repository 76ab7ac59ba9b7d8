/- What isn't reached is dropped. -/
import Derived.Test.YtekmboolfjicbaaSList
import Derived.Test.YtekmboolfjicbaaHAll
set_option maxRecDepth 20000
set_option linter.unusedSimpArgs false
set_option linter.unusedVariables false
namespace Go.Proofs.Ytekmboolfjicbaa
open Go.RowKit Go.Shelf
attribute [local go_sem] Oper.semAt_some

theorem dropM_no {m : Hm} {v : Int × Int} (h : hasP m.L v = false) : dropM m v = m := by unfold dropM; rw [if_neg (by rw [h]; decide)]
theorem dropM_yes {m : Hm} {v : Int × Int} (h : hasP m.L v = true) : (dropM m v).L = m.L.set v.2.toNat none := by
  obtain ⟨_, _, d, hd⟩ := hasP_iff.1 h
  unfold dropM
  rw [if_pos h, hd]
  show ((m.L.set v.2.toNat _).set v.2.toNat none) = _
  rw [List.set_set]
theorem dropM_len (m : Hm) (v : Int × Int) : (dropM m v).L.length = m.L.length := by
  cases h : hasP m.L v with
  | false => rw [dropM_no h]
  | true => rw [dropM_yes h, List.length_set]
theorem dropM_at {m : Hm} {v : Int × Int} (h : hasP m.L v = true) (j : Nat) : clAt (dropM m v).L j = if j = v.2.toNat then none else clAt m.L j := by
  obtain ⟨_, _, d, hd⟩ := hasP_iff.1 h
  rw [dropM_yes h, clAt_set (clAt_some hd)]
/-- One object kept, or dropped. -/
def colV (T : List (Int × Int)) (m : Hm) (v : Int × Int) : Hm := if hasK T v = true then m else dropM m v
def colM (T : List (Int × Int)) (m : Hm) (vs : List (Int × Int)) : Hm := vs.foldl (colV T) m
def colN (T vs : List (Int × Int)) : Nat := (vs.filter fun v => !hasK T v).length
theorem take_snoc {vs : List (Int × Int)} {i : Nat} {v : Int × Int} (h : vs[i]? = some v) : vs.take (i + 1) = vs.take i ++ [v] := by rw [List.take_add_one, h]; rfl
theorem colM_snoc (T : List (Int × Int)) (m : Hm) (vs : List (Int × Int)) (v : Int × Int) : colM T m (vs ++ [v]) = colV T (colM T m vs) v := by unfold colM; rw [List.foldl_append]; rfl
theorem colN_snoc (T vs : List (Int × Int)) (v : Int × Int) : colN T (vs ++ [v]) = colN T vs + (if hasK T v = true then 0 else 1) := by
  unfold colN
  rw [List.filter_append, List.length_append]
  cases h : hasK T v <;> simp [h]
theorem colN_le (T vs : List (Int × Int)) : colN T vs ≤ vs.length := List.length_filter_le ..
/-- What is there amid a collection. -/
theorem colM_at (T : List (Int × Int)) (m : Hm) (i : Nat) (hi : i ≤ (refsL m.L m.L.length).length) :
    (colM T m ((refsL m.L m.L.length).take i)).L.length = m.L.length ∧ ∀ j : Nat, clAt (colM T m ((refsL m.L m.L.length).take i)).L j = if (8, (j : Int)) ∈ (refsL m.L m.L.length).take i ∧ (8, (j : Int)) ∉ T then none else clAt m.L j := by
  induction i with
  | zero => exact ⟨rfl, fun j => by rw [if_neg (by simp)]; rfl⟩
  | succ i ih =>
    have hlt : i < (refsL m.L m.L.length).length := by omega
    obtain ⟨v, hv⟩ : ∃ v, (refsL m.L m.L.length)[i]? = some v := ⟨_, List.getElem?_eq_getElem hlt⟩
    obtain ⟨ih1, ih2⟩ := ih (by omega)
    obtain ⟨p, hp, rfl, hs⟩ := refsL_mem.1 (List.mem_of_getElem? hv)
    rw [take_snoc hv, colM_snoc]
    unfold colV
    by_cases hT : (8, (p : Int)) ∈ T
    · rw [if_pos (hasK_yes hT)]
      refine ⟨ih1, fun j => (ih2 j).trans ?_⟩
      by_cases e : j = p
      · subst e
        rw [if_neg (fun h => h.2 hT), if_neg (fun h => h.2 hT)]
      · have h1 : ((8, (j : Int)) ∈ (refsL m.L m.L.length).take i ++ [(8, (p : Int))]) ↔ (8, (j : Int)) ∈ (refsL m.L m.L.length).take i := by
          rw [List.mem_append]
          exact ⟨fun h => h.elim id fun h2 => by simp at h2; omega, .inl⟩
        simp only [h1]
    · rw [if_neg (by rw [hasK_no hT]; decide)]
      have hnot : (8, (p : Int)) ∉ (refsL m.L m.L.length).take i := fun hm => by
        have hnd := refsL_nodup m.L m.L.length
        rw [← List.take_append_drop i (refsL m.L m.L.length), List.nodup_append] at hnd
        refine hnd.2.2 _ hm _ ?_ rfl
        rw [List.drop_eq_getElem_cons hlt]
        have : (refsL m.L m.L.length)[i] = (8, (p : Int)) := by rw [List.getElem?_eq_getElem hlt] at hv; exact Option.some.inj hv
        rw [this]; simp
      have hat : clAt (colM T m ((refsL m.L m.L.length).take i)).L p = clAt m.L p := by rw [ih2 p, if_neg (fun h => hnot h.1)]
      obtain ⟨c, hc⟩ := Option.isSome_iff_exists.1 hs
      have hh : hasP (colM T m ((refsL m.L m.L.length).take i)).L (8, (p : Int)) = true := hasP_iff.2 ⟨rfl, Int.natCast_nonneg p, c, by rw [show ((8, (p : Int)) : Int × Int).2.toNat = p from Int.toNat_natCast p, hat]; exact hc⟩
      refine ⟨(dropM_len _ _).trans ih1, fun j => ?_⟩
      rw [dropM_at hh, show ((8, (p : Int)) : Int × Int).2.toNat = p from Int.toNat_natCast p]
      by_cases e : j = p
      · subst e
        rw [if_pos rfl, if_pos ⟨by simp, hT⟩]
      · rw [if_neg e, ih2 j]
        have h1 : ((8, (j : Int)) ∈ (refsL m.L m.L.length).take i ++ [(8, (p : Int))]) ↔ (8, (j : Int)) ∈ (refsL m.L m.L.length).take i := by
          rw [List.mem_append]
          exact ⟨fun h => h.elim id fun h2 => by simp at h2; omega, .inl⟩
        simp only [h1]
/-- .. behind it. -/
theorem colM_end (T : List (Int × Int)) (m : Hm) : (colM T m (refsL m.L m.L.length)).L.length = m.L.length ∧ ∀ j : Nat, clAt (colM T m (refsL m.L m.L.length)).L j = if (8, (j : Int)) ∈ T then clAt m.L j else none := by
  obtain ⟨h1, h2⟩ := colM_at T m _ (Nat.le_refl _)
  rw [List.take_length] at h1 h2
  refine ⟨h1, fun j => ?_⟩
  rw [h2 j]
  by_cases hT : (8, (j : Int)) ∈ T
  · rw [if_neg (fun h => h.2 hT), if_pos hT]
  · rw [if_neg hT]
    by_cases hm : (8, (j : Int)) ∈ refsL m.L m.L.length
    · rw [if_pos ⟨hm, hT⟩]
    · rw [if_neg (fun h => hm h.1)]
      cases hc : clAt m.L j with
      | none => rfl
      | some c => exact absurd (refsL_mem.2 ⟨j, clAt_some hc, rfl, by rw [hc]; rfl⟩) hm
/-- Amid it the next one is there yet. -/
theorem colM_has (T : List (Int × Int)) (m : Hm) {i : Nat} {v : Int × Int} (hv : (refsL m.L m.L.length)[i]? = some v) : hasP (colM T m ((refsL m.L m.L.length).take i)).L v = true := by
  have hlt : i < (refsL m.L m.L.length).length := by
    rcases Nat.lt_or_ge i (refsL m.L m.L.length).length with h | h
    · exact h
    · rw [List.getElem?_eq_none h] at hv; cases hv
  obtain ⟨ih1, ih2⟩ := colM_at T m i (by omega)
  obtain ⟨p, hp, rfl, hs⟩ := refsL_mem.1 (List.mem_of_getElem? hv)
  have hnot : (8, (p : Int)) ∉ (refsL m.L m.L.length).take i := fun hm => by
    have hnd := refsL_nodup m.L m.L.length
    rw [← List.take_append_drop i (refsL m.L m.L.length), List.nodup_append] at hnd
    refine hnd.2.2 _ hm _ ?_ rfl
    rw [List.drop_eq_getElem_cons hlt]
    have : (refsL m.L m.L.length)[i] = (8, (p : Int)) := by rw [List.getElem?_eq_getElem hlt] at hv; exact Option.some.inj hv
    rw [this]; simp
  obtain ⟨c, hc⟩ := Option.isSome_iff_exists.1 hs
  exact hasP_iff.2 ⟨rfl, Int.natCast_nonneg p, c, by rw [show ((8, (p : Int)) : Int × Int).2.toNat = p from Int.toNat_natCast p, ih2 p, if_neg (fun h => hnot h.1)]; exact hc⟩
end Go.Proofs.Ytekmboolfjicbaa
