/- A text that is cut at a token's place has just the tokens ahead of it; tokens' places rise, and lie in the text. -/
import Derived.Test.YtjpbbooeihdnfaaDoorLP1
set_option maxRecDepth 20000
set_option linter.unusedSimpArgs false
set_option linter.unusedVariables false
namespace Go.Proofs.YtjpbbooeihdnfaaDoor

theorem labO_eq (L : List UInt8) : labO L = if [35].isPrefixOf L then
    (if ((L.drop 1).takeWhile isDig).length < 1 ∨ 3 < ((L.drop 1).takeWhile isDig).length ∨ ((L.drop 1).takeWhile isDig).length = (L.drop 1).length then none
    else if (L.drop 1).getD ((L.drop 1).takeWhile isDig).length 0 = 61 then some (15, parseV 10 ((L.drop 1).takeWhile isDig), ((L.drop 1).takeWhile isDig).length + 2)
    else if (L.drop 1).getD ((L.drop 1).takeWhile isDig).length 0 = 35 then some (16, parseV 10 ((L.drop 1).takeWhile isDig), ((L.drop 1).takeWhile isDig).length + 2)
    else none) else none := rfl
theorem tw_take_eq {p : UInt8 → Bool} {L : List UInt8} {m : Nat} (h : pre p L ≤ m) : (L.take m).takeWhile p = L.takeWhile p := by
  have h1 := pre_take p L m
  have e : ((L.take m).takeWhile p).length = (L.takeWhile p).length := by
    show pre p (L.take m) = pre p L
    rw [h1]; omega
  have a1 := tw_take p (L.take m)
  have a2 := tw_take p L
  rw [e, take2 L (by exact h), a2] at a1
  exact a1.symm
theorem getD_take {L : List UInt8} {m j : Nat} (h : j < m) : (L.take m).getD j 0 = L.getD j 0 := by
  rw [List.getD_eq_getElem?_getD, List.getD_eq_getElem?_getD, List.getElem?_take_of_lt h]
theorem lab_take {L : List UInt8} {m : Nat} : (∀ k n z, labO L = some (k, n, z) → z ≤ m → labO (L.take m) = some (k, n, z)) ∧ (∀ x, labO (L.take m) = some x → labO L = some x) := by
  have key : ∀ D : List UInt8, D = (L.drop 1).takeWhile isDig → D.length + 1 < m → D.length < (L.drop 1).length → [35].isPrefixOf L = true → labO (L.take m) = labO L := by
    intro D hD h1 h2 hp
    have hd : (L.take m).drop 1 = (L.drop 1).take (m - 1) := List.drop_take ..
    have ht : ((L.take m).drop 1).takeWhile isDig = D := by
      rw [hd, tw_take_eq (by show ((L.drop 1).takeWhile isDig).length ≤ _; rw [← hD]; omega), hD]
    rw [labO_eq (L.take m), labO_eq L, pfx_eq (by simp; omega), ht, ← hD, hp, hd, getD_take (by omega), List.length_take]
    have e1 : ((D.length < 1 ∨ 3 < D.length ∨ D.length = min (m - 1) (L.drop 1).length)) ↔ (D.length < 1 ∨ 3 < D.length ∨ D.length = (L.drop 1).length) := by omega
    simp only [e1]
  refine ⟨fun k n z h hz => ?_, fun x h => ?_⟩
  · have h0 := h
    rw [labO_eq] at h
    by_cases hp : [35].isPrefixOf L = true
    · rw [if_pos hp] at h
      have hle := (List.takeWhile_sublist (l := L.drop 1) isDig).length_le
      generalize hD : (L.drop 1).takeWhile isDig = D at h hle
      by_cases hb : D.length < 1 ∨ 3 < D.length ∨ D.length = (L.drop 1).length
      · rw [if_pos hb] at h; cases h
      · rw [if_neg hb] at h
        have hzz : z = D.length + 2 := by
          split at h
          · injection h with h; injection h with a b; injection b with b c; exact c.symm
          · split at h
            · injection h with h; injection h with a b; injection b with b c; exact c.symm
            · cases h
        rw [key D hD.symm (by omega) (by omega) hp]
        exact h0
    · rw [if_neg hp] at h; cases h
  · have h0 := h
    rw [labO_eq] at h
    by_cases hp' : [35].isPrefixOf (L.take m) = true
    · rw [if_pos hp'] at h
      have hp := pfx_take hp'
      have hd : (L.take m).drop 1 = (L.drop 1).take (m - 1) := List.drop_take ..
      rw [hd] at h
      have hpt := pre_take isDig (L.drop 1) (m - 1)
      unfold pre at hpt
      have hlen : ((L.drop 1).take (m - 1)).length = min (m - 1) (L.drop 1).length := List.length_take ..
      by_cases hb : (((L.drop 1).take (m - 1)).takeWhile isDig).length < 1 ∨ 3 < (((L.drop 1).take (m - 1)).takeWhile isDig).length ∨ (((L.drop 1).take (m - 1)).takeWhile isDig).length = ((L.drop 1).take (m - 1)).length
      · rw [if_pos hb] at h; cases h
      · have hle := (List.takeWhile_sublist (l := (L.drop 1).take (m - 1)) isDig).length_le
        rw [← key _ rfl (by omega) (by omega) hp]
        exact h0
    · rw [if_neg hp'] at h; cases h
theorem wsz_take {L : List UInt8} {m : Nat} (h : wsz L ≤ m) : wsz (L.take m) = wsz L := by
  have hk : wordK (L.take m) = wordK L := by
    unfold wsz at h
    have hK : wordK L ≤ m := by omega
    unfold wordK at hK ⊢
    by_cases hp : [35, 92].isPrefixOf L = true
    · rw [if_pos hp] at hK
      have h2 := pre_len hp
      have h2' : 2 ≤ L.length := h2
      rw [if_pos hp, if_pos (pfx_take2 hp (by show 2 ≤ m; omega)), List.length_take]
      omega
    · rw [if_neg hp, if_neg (fun e => hp (pfx_take e))]
  unfold wsz at h ⊢
  rw [hk, List.drop_take, pre_take]
  omega
theorem wrd_take {L : List UInt8} {m n : Nat} {x : Tk} {b : Bool} (h : wrdM L = .tok x n b) (hm : n ≤ m) : wrdM (L.take m) = wrdM L := by
  have hn : wsz L ≤ m := by
    unfold wrdM at h
    have hw := wsz_le L
    split at h
    · cases h
    · revert h
      cases hiB (L.take (wsz L)) with
      | some j => intro h; cases h
      | none => intro h; injection h with h1 h2 h3; rw [List.length_take] at h2; omega
  unfold wrdM
  rw [wsz_take hn, take2 L hn]
theorem step_eq {L : List UInt8} {c : UInt8} {t : List UInt8} (hL : L = c :: t) : stepM L = (if isBlank c then passM L 1
      else if c = 59 then passM L (lineSz L)
      else if [35, 124].isPrefixOf L then passM L (remSz L)
      else if c = 34 then quotM L
      else match markO L with
      | some k => .tok ⟨k, 0, []⟩ (mks.getD k []).length false
      | none => match labO L with
        | some (k, n, z) => .tok ⟨k, n, []⟩ z (decide (k = 16))
        | none => wrdM L) := by rw [hL]; rfl
/-- What a step takes. -/
def stN : St → Nat
  | .err _ _ => 0
  | .pass n => n
  | .tok _ n _ => n
theorem passM_n {L : List UInt8} {n : Nat} {st : St} (h : passM L n = st) (h0 : stN st ≠ 0) : n = stN st := by
  rcases passM_is L n with ⟨i, x, hp⟩ | hp
  · rw [hp] at h; subst h; exact absurd rfl h0
  · rw [hp] at h; subst h; rfl
theorem step_take {L : List UInt8} {m : Nat} {st : St} (h : stepM L = st) (h0 : stN st ≠ 0) (hm : stN st ≤ m) : stepM (L.take m) = st := by
  cases hq : L with
  | nil => rw [hq] at h; subst h; exact absurd rfl h0
  | cons c t =>
    obtain ⟨m, rfl⟩ : ∃ k, m = k + 1 := ⟨m - 1, by omega⟩
    have ht : L.take (m + 1) = c :: t.take m := by rw [hq]; rfl
    rw [step_eq hq] at h
    rw [← hq, step_eq ht]
    by_cases c1 : isBlank c = true
    · rw [if_pos c1] at h ⊢
      rw [passM_take (by omega)]; exact h
    · rw [if_neg c1] at h ⊢
      by_cases c2 : c = 59
      · rw [if_pos c2] at h ⊢
        have hn := passM_n h h0
        have hl : lineSz (L.take (m + 1)) = lineSz L := by
          show pre _ _ = pre _ _
          rw [pre_take]
          have : lineSz L = pre (· != 10) L := rfl
          omega
        rw [hl, passM_take (by omega)]; exact h
      · rw [if_neg c2] at h ⊢
        by_cases c3 : [35, 124].isPrefixOf L = true
        · rw [if_pos c3] at h
          have hn := passM_n h h0
          obtain ⟨h3, hr⟩ := remSz_take c3 (by omega) (m := m + 1) (by omega)
          rw [if_pos (pfx_take2 c3 (by show 2 ≤ m + 1; omega)), hr, passM_take (by omega)]; exact h
        · rw [if_neg c3] at h
          rw [if_neg (fun e => c3 (pfx_take e))]
          by_cases c4 : c = 34
          · rw [if_pos c4] at h ⊢
            cases st with
            | err i x => exact absurd rfl h0
            | pass n =>
              exfalso
              unfold quotM at h
              split at h
              · cases h
              · revert h
                cases unq (qsz L) ((L.take (qsz L - 1)).drop 1) 0 with
                | error j => intro h; cases h
                | ok l => intro h; cases h
            | tok x n b => rw [quotM_take (by rw [hq]; simp) h hm]; exact h
          · rw [if_neg c4] at h ⊢
            obtain ⟨k1, k2⟩ := mark_take (L := L) (m := m + 1) 9 (Nat.le_refl _)
            cases hmk : markO L with
            | some k =>
              rw [hmk] at h
              have h' : St.tok ⟨k, 0, []⟩ (mks.getD k []).length false = st := h
              subst h'
              have : markO (L.take (m + 1)) = some k := k1 k hmk hm
              rw [this]
            | none =>
              rw [hmk] at h
              have : markO (L.take (m + 1)) = none := k2 hmk
              rw [this]
              obtain ⟨l1, l2⟩ := lab_take (L := L) (m := m + 1)
              cases hlb : labO L with
              | some x =>
                obtain ⟨k, n, z⟩ := x
                rw [hlb] at h
                have h' : St.tok ⟨k, n, []⟩ z (decide (k = 16)) = st := h
                subst h'
                rw [l1 k n z hlb hm]
              | none =>
                rw [hlb] at h
                have hno : labO (L.take (m + 1)) = none := by
                  cases hx : labO (L.take (m + 1)) with
                  | none => rfl
                  | some x => have := l2 x hx; rw [hlb] at this; cases this
                rw [hno]
                have h' : wrdM L = st := h
                show wrdM (L.take (m + 1)) = st
                cases st with
                | err i x => exact absurd rfl h0
                | pass n =>
                  exfalso
                  unfold wrdM at h'
                  split at h'
                  · cases h'
                  · revert h'
                    cases hiB (L.take (wsz L)) with
                    | some j => intro h; cases h
                    | none => intro h; cases h
                | tok x n b => rw [wrd_take h' hm]; exact h'
end Go.Proofs.YtjpbbooeihdnfaaDoor
