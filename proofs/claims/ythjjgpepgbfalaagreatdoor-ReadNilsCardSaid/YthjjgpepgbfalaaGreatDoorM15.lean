/- Texts XLP1 to XLT3 of this seat, laid into one. -/
import Derived.Test.YthjjgpepgbfalaaGreatDoorM14
set_option linter.unusedVariables false
set_option linter.unusedSimpArgs false
set_option linter.constructorNameAsVariable false
section
/-! A step of the scan looks at no byte behind what it takes. -/
set_option maxRecDepth 20000
set_option linter.unusedSimpArgs false
set_option linter.unusedVariables false
namespace Go.Proofs.YthjjgpepgbfalaaGreatDoor.Lx

theorem pre_take (p : UInt8 → Bool) : ∀ (L : List UInt8) (m : Nat), pre p (L.take m) = min m (pre p L)
  | [], m => by simp [pre]
  | c :: t, 0 => by simp [pre]
  | c :: t, m + 1 => by
    have ih := pre_take p t m
    unfold pre at ih ⊢
    rw [List.take_succ_cons, List.takeWhile_cons, List.takeWhile_cons]
    rcases p c with _ | _
    · simp
    · simp only [if_true, List.length_cons]
      rw [ih]; omega
theorem pfx_take {p : List UInt8} : ∀ {L : List UInt8} {m : Nat}, p.isPrefixOf (L.take m) = true → p.isPrefixOf L = true := by
  intro L m h
  obtain ⟨r, hr⟩ := List.isPrefixOf_iff_prefix.1 h
  exact List.isPrefixOf_iff_prefix.2 (List.IsPrefix.trans ⟨r, hr⟩ (List.take_prefix _ _))
theorem pfx_take2 {p L : List UInt8} {m : Nat} (h : p.isPrefixOf L = true) (hm : p.length ≤ m) : p.isPrefixOf (L.take m) = true := by
  obtain ⟨r, rfl⟩ := pre_of h
  rw [List.take_append]
  rw [List.take_of_length_le hm]
  exact List.isPrefixOf_iff_prefix.2 ⟨_, rfl⟩
theorem pfx_eq {p L : List UInt8} {m : Nat} (hm : p.length ≤ m) : p.isPrefixOf (L.take m) = p.isPrefixOf L := by
  rw [← Bool.coe_iff_coe]
  exact ⟨pfx_take, fun h => pfx_take2 h hm⟩
theorem take2 (L : List UInt8) {n m : Nat} (h : n ≤ m) : (L.take m).take n = L.take n := by rw [List.take_take, Nat.min_eq_left h]
theorem passM_take {L : List UInt8} {n m : Nat} (h : n ≤ m) : passM (L.take m) n = passM L n := by unfold passM; rw [take2 L h]
theorem rem_gt : ∀ (k : Nat) (L : List UInt8) (o : Int) (i : Nat), L.length ≤ k → remGo L o i ≠ 0 → i < remGo L o i := by
  intro k
  induction k with
  | zero =>
    intro L o i h h0
    have : L = [] := List.eq_nil_of_length_eq_zero (by omega)
    subst this
    exact absurd rfl h0
  | succ k ih =>
    intro L o i h h0
    match L, h, h0 with
    | [], _, h0 => exact absurd rfl h0
    | [_], _, h0 => exact absurd rfl h0
    | a :: b :: t, h, h0 =>
      have ht : t.length ≤ k := by simp at h; omega
      have hbt : (b :: t).length ≤ k := by simp at h ⊢; omega
      rw [remGo] at h0 ⊢
      split at h0
      · rename_i c1
        rw [if_pos c1]
        split at h0
        · rename_i c2; rw [if_pos c2]; omega
        · rename_i c2; rw [if_neg c2]; have := ih t _ _ ht h0; omega
      · rename_i c1
        rw [if_neg c1]
        split at h0
        · rename_i c3
          rw [if_pos c3]
          split at h0
          · rename_i c2; rw [if_pos c2]; omega
          · rename_i c2; rw [if_neg c2]; have := ih t _ _ ht h0; omega
        · rename_i c3
          rw [if_neg c3]
          split at h0
          · rename_i c2; rw [if_pos c2]; omega
          · rename_i c2; rw [if_neg c2]; have := ih (b :: t) _ _ hbt h0; omega
theorem rem_take : ∀ (k : Nat) (L : List UInt8) (o : Int) (i m : Nat), L.length ≤ k → o ≠ 0 → remGo L o i ≠ 0 → remGo L o i ≤ i + m → remGo (L.take m) o i = remGo L o i := by
  intro k
  induction k with
  | zero =>
    intro L o i m h ho h0
    have : L = [] := List.eq_nil_of_length_eq_zero (by omega)
    subst this
    exact absurd rfl h0
  | succ k ih =>
    intro L o i m h ho h0 hm
    match L, h, h0, hm with
    | [], _, h0, _ => exact absurd rfl h0
    | [_], _, h0, _ => exact absurd rfl h0
    | a :: b :: t, h, h0, hm =>
      have ht : t.length ≤ k := by simp at h; omega
      have hbt : (b :: t).length ≤ k := by simp at h ⊢; omega
      have hgt := rem_gt _ (a :: b :: t) o i (Nat.le_refl _) h0
      match m, hm with
      | 0, hm => omega
      | 1, hm =>
        exfalso
        rw [remGo] at h0 hgt hm
        split at hm
        · rename_i c1
          rw [if_pos c1] at h0
          split at hm
          · omega
          · rename_i c2; rw [if_neg c2] at h0; have := rem_gt _ t _ _ (Nat.le_refl _) h0; omega
        · rename_i c1
          rw [if_neg c1] at h0
          split at hm
          · rename_i c3
            rw [if_pos c3] at h0
            split at hm
            · omega
            · rename_i c2; rw [if_neg c2] at h0; have := rem_gt _ t _ _ (Nat.le_refl _) h0; omega
          · rename_i c3
            rw [if_neg c3, if_neg ho] at h0
            have := rem_gt _ (b :: t) _ _ (Nat.le_refl _) h0; omega
      | m + 2, hm =>
        rw [List.take_succ_cons, List.take_succ_cons]
        rw [remGo] at h0 hm ⊢
        rw [remGo]
        split
        · rename_i c1
          rw [if_pos c1] at h0 hm
          split
          · rfl
          · rename_i c2
            rw [if_neg c2] at h0 hm
            exact ih t _ _ m ht c2 h0 (by omega)
        · rename_i c1
          rw [if_neg c1] at h0 hm
          split
          · rename_i c3
            rw [if_pos c3] at h0 hm
            split
            · rfl
            · rename_i c2
              rw [if_neg c2] at h0 hm
              exact ih t _ _ m ht c2 h0 (by omega)
          · rename_i c3
            rw [if_neg c3, if_neg ho] at h0 hm
            · have := ih (b :: t) o (i + 1) (m + 1) hbt ho h0 (by omega)
              rw [List.take_succ_cons] at this
              exact this
theorem remSz_take {L : List UInt8} {m : Nat} (hp : [35, 124].isPrefixOf L = true) (h0 : remSz L ≠ 0) (hm : remSz L ≤ m) : 3 ≤ m ∧ remSz (L.take m) = remSz L := by
  obtain ⟨r, rfl⟩ := pre_of hp
  have e : ∀ t : List UInt8, remSz (35 :: 124 :: t) = remGo t 1 2 := fun t => by
    show remGo (35 :: 124 :: t) 0 0 = _
    rw [remGo, if_pos ⟨rfl, rfl⟩, if_neg (by decide)]; rfl
  have h1 : ([35, 124] : List UInt8) ++ r = 35 :: 124 :: r := rfl
  rw [h1, e] at h0 hm ⊢
  have hgt := rem_gt _ r 1 2 (Nat.le_refl _) h0
  refine ⟨by omega, ?_⟩
  obtain ⟨m2, rfl⟩ : ∃ m2, m = m2 + 2 := ⟨m - 2, by omega⟩
  rw [List.take_succ_cons, List.take_succ_cons, e]
  exact rem_take _ r 1 2 m2 (Nat.le_refl _) (by decide) h0 (by omega)
theorem qGo_take : ∀ (k : Nat) (L : List UInt8) (i m : Nat), L.length ≤ k → qGo L i ≠ 0 → qGo L i ≤ i + m → qGo (L.take m) i = qGo L i := by
  intro k
  induction k with
  | zero =>
    intro L i m h h0
    have : L = [] := List.eq_nil_of_length_eq_zero (by omega)
    subst this
    exact absurd rfl h0
  | succ k ih =>
    intro L i m h h0 hm
    cases L with
    | nil => exact absurd rfl h0
    | cons c t =>
      have hgt := (qGo_spec _ (c :: t) i _ (Nat.le_refl _) rfl h0).1
      cases m with
      | zero => omega
      | succ m =>
        rw [List.take_succ_cons]
        rw [qGo_cons] at h0 hm ⊢
        rw [qGo_cons]
        by_cases c1 : c = 34
        · rw [if_pos c1, if_pos c1]
        · rw [if_neg c1] at h0 hm
          rw [if_neg c1, if_neg c1]
          by_cases c2 : c = 92
          · rw [if_pos c2] at h0 hm
            rw [if_pos c2, if_pos c2]
            have hgt2 := (qGo_spec _ (t.drop 1) (i + 2) _ (Nat.le_refl _) rfl h0).1
            have hd : (t.take m).drop 1 = (t.drop 1).take (m - 1) := by rw [List.drop_take]
            rw [hd]
            exact ih (t.drop 1) (i + 2) (m - 1) (by rw [List.length_drop]; simp at h; omega) h0 (by omega)
          · rw [if_neg c2] at h0 hm
            rw [if_neg c2, if_neg c2]
            exact ih t (i + 1) m (by simp at h; omega) h0 (by omega)
theorem quotM_take {L : List UInt8} {m n : Nat} {x : Tk} {b : Bool} (hL : L ≠ []) (h : quotM L = .tok x n b) (hm : n ≤ m) : quotM (L.take m) = quotM L := by
  unfold quotM at h
  by_cases hz : qsz L = 0
  · rw [if_pos hz] at h; cases h
  · rw [if_neg hz] at h
    have hn : qsz L ≤ m := by
      revert h
      cases unq (qsz L) ((L.take (qsz L - 1)).drop 1) 0 with
      | error j => intro h; cases h
      | ok l => intro h; injection h with h1 h2 h3; omega
    obtain ⟨s1, s2, s3⟩ := qsz_spec hz hL
    have hq : qsz (L.take m) = qsz L := by
      show qGo ((L.take m).drop 1) 1 = qGo (L.drop 1) 1
      rw [List.drop_take]
      exact qGo_take _ _ 1 (m - 1) (Nat.le_refl _) hz (by have : qGo (L.drop 1) 1 ≤ m := hn; omega)
    unfold quotM
    rw [hq, take2 L (by omega)]
theorem mark_take {L : List UInt8} {m : Nat} : ∀ (j : Nat), j ≤ 9 → (∀ k, markGo L j = some k → (mks.getD k []).length ≤ m → markGo (L.take m) j = some k) ∧ (markGo L j = none → markGo (L.take m) j = none) := by
  intro j
  induction j with
  | zero => intro _; exact ⟨fun k h => (by cases h), fun _ => rfl⟩
  | succ j ih =>
    intro hj
    obtain ⟨i1, i2⟩ := ih (by omega)
    have e : ∀ L : List UInt8, markGo L (j + 1) = if (mks.getD j []).isPrefixOf L then some j else markGo L j := fun _ => rfl
    rw [e, e]
    by_cases hp : (mks.getD j []).isPrefixOf L = true
    · rw [if_pos hp]
      refine ⟨fun k h hk => ?_, fun h => (by cases h)⟩
      injection h with h
      subst h
      rw [if_pos (pfx_take2 hp hk)]
    · rw [if_neg hp, if_neg (fun h => hp (pfx_take h))]
      exact ⟨i1, i2⟩
end Go.Proofs.YthjjgpepgbfalaaGreatDoor.Lx
end
section
/-! A text that is cut at a token's place has just the tokens ahead of it; tokens' places rise, and lie in the text. -/
set_option maxRecDepth 20000
set_option linter.unusedSimpArgs false
set_option linter.unusedVariables false
namespace Go.Proofs.YthjjgpepgbfalaaGreatDoor.Lx

theorem labO_eq (L : List UInt8) : labO L = if [35].isPrefixOf L then
    (if ((L.drop 1).takeWhile isDig).length < 1 ∨ 3 < ((L.drop 1).takeWhile isDig).length ∨ ((L.drop 1).takeWhile isDig).length = (L.drop 1).length then none
    else if (L.drop 1).getD ((L.drop 1).takeWhile isDig).length 0 = 61 then some (15, parseV 10 ((L.drop 1).takeWhile isDig), ((L.drop 1).takeWhile isDig).length + 2)
    else if (L.drop 1).getD ((L.drop 1).takeWhile isDig).length 0 = 35 then some (16, parseV 10 ((L.drop 1).takeWhile isDig), ((L.drop 1).takeWhile isDig).length + 2)
    else none) else none := rfl
theorem tw_take_eq {p : UInt8 → Bool} {L : List UInt8} {m : Nat} (h : pre p L ≤ m) : (L.take m).takeWhile p = L.takeWhile p := by
  have h1 := pre_take p L m
  have e : ((L.take m).takeWhile p).length = (L.takeWhile p).length := by
    show pre p (L.take m) = pre p L
    rw [h1]; omega
  have a1 := tw_take p (L.take m)
  have a2 := tw_take p L
  rw [e, take2 L (by exact h), a2] at a1
  exact a1.symm
theorem getD_take {L : List UInt8} {m j : Nat} (h : j < m) : (L.take m).getD j 0 = L.getD j 0 := by
  rw [List.getD_eq_getElem?_getD, List.getD_eq_getElem?_getD, List.getElem?_take_of_lt h]
theorem lab_take {L : List UInt8} {m : Nat} : (∀ k n z, labO L = some (k, n, z) → z ≤ m → labO (L.take m) = some (k, n, z)) ∧ (∀ x, labO (L.take m) = some x → labO L = some x) := by
  have key : ∀ D : List UInt8, D = (L.drop 1).takeWhile isDig → D.length + 1 < m → D.length < (L.drop 1).length → [35].isPrefixOf L = true → labO (L.take m) = labO L := by
    intro D hD h1 h2 hp
    have hd : (L.take m).drop 1 = (L.drop 1).take (m - 1) := List.drop_take ..
    have ht : ((L.take m).drop 1).takeWhile isDig = D := by
      rw [hd, tw_take_eq (by show ((L.drop 1).takeWhile isDig).length ≤ _; rw [← hD]; omega), hD]
    rw [labO_eq (L.take m), labO_eq L, pfx_eq (by simp; omega), ht, ← hD, hp, hd, getD_take (by omega), List.length_take]
    have e1 : ((D.length < 1 ∨ 3 < D.length ∨ D.length = min (m - 1) (L.drop 1).length)) ↔ (D.length < 1 ∨ 3 < D.length ∨ D.length = (L.drop 1).length) := by omega
    simp only [e1]
  refine ⟨fun k n z h hz => ?_, fun x h => ?_⟩
  · have h0 := h
    rw [labO_eq] at h
    by_cases hp : [35].isPrefixOf L = true
    · rw [if_pos hp] at h
      have hle := (List.takeWhile_sublist (l := L.drop 1) isDig).length_le
      generalize hD : (L.drop 1).takeWhile isDig = D at h hle
      by_cases hb : D.length < 1 ∨ 3 < D.length ∨ D.length = (L.drop 1).length
      · rw [if_pos hb] at h; cases h
      · rw [if_neg hb] at h
        have hzz : z = D.length + 2 := by
          split at h
          · injection h with h; injection h with a b; injection b with b c; exact c.symm
          · split at h
            · injection h with h; injection h with a b; injection b with b c; exact c.symm
            · cases h
        rw [key D hD.symm (by omega) (by omega) hp]
        exact h0
    · rw [if_neg hp] at h; cases h
  · have h0 := h
    rw [labO_eq] at h
    by_cases hp' : [35].isPrefixOf (L.take m) = true
    · rw [if_pos hp'] at h
      have hp := pfx_take hp'
      have hd : (L.take m).drop 1 = (L.drop 1).take (m - 1) := List.drop_take ..
      rw [hd] at h
      have hpt := pre_take isDig (L.drop 1) (m - 1)
      unfold pre at hpt
      have hlen : ((L.drop 1).take (m - 1)).length = min (m - 1) (L.drop 1).length := List.length_take ..
      by_cases hb : (((L.drop 1).take (m - 1)).takeWhile isDig).length < 1 ∨ 3 < (((L.drop 1).take (m - 1)).takeWhile isDig).length ∨ (((L.drop 1).take (m - 1)).takeWhile isDig).length = ((L.drop 1).take (m - 1)).length
      · rw [if_pos hb] at h; cases h
      · have hle := (List.takeWhile_sublist (l := (L.drop 1).take (m - 1)) isDig).length_le
        rw [← key _ rfl (by omega) (by omega) hp]
        exact h0
    · rw [if_neg hp'] at h; cases h
theorem wsz_take {L : List UInt8} {m : Nat} (h : wsz L ≤ m) : wsz (L.take m) = wsz L := by
  have hk : wordK (L.take m) = wordK L := by
    unfold wsz at h
    have hK : wordK L ≤ m := by omega
    unfold wordK at hK ⊢
    by_cases hp : [35, 92].isPrefixOf L = true
    · rw [if_pos hp] at hK
      have h2 := pre_len hp
      have h2' : 2 ≤ L.length := h2
      rw [if_pos hp, if_pos (pfx_take2 hp (by show 2 ≤ m; omega)), List.length_take]
      omega
    · rw [if_neg hp, if_neg (fun e => hp (pfx_take e))]
  unfold wsz at h ⊢
  rw [hk, List.drop_take, pre_take]
  omega
theorem wrd_take {L : List UInt8} {m n : Nat} {x : Tk} {b : Bool} (h : wrdM L = .tok x n b) (hm : n ≤ m) : wrdM (L.take m) = wrdM L := by
  have hn : wsz L ≤ m := by
    unfold wrdM at h
    have hw := wsz_le L
    split at h
    · cases h
    · revert h
      cases hiB (L.take (wsz L)) with
      | some j => intro h; cases h
      | none => intro h; injection h with h1 h2 h3; rw [List.length_take] at h2; omega
  unfold wrdM
  rw [wsz_take hn, take2 L hn]
theorem step_eq {L : List UInt8} {c : UInt8} {t : List UInt8} (hL : L = c :: t) : stepM L = (if isBlank c then passM L 1
      else if c = 59 then passM L (lineSz L)
      else if [35, 124].isPrefixOf L then passM L (remSz L)
      else if c = 34 then quotM L
      else match markO L with
      | some k => .tok ⟨k, 0, []⟩ (mks.getD k []).length false
      | none => match labO L with
        | some (k, n, z) => .tok ⟨k, n, []⟩ z (decide (k = 16))
        | none => wrdM L) := by rw [hL]; rfl
/-- What a step takes. -/
def stN : St → Nat
  | .err _ _ => 0
  | .pass n => n
  | .tok _ n _ => n
theorem passM_n {L : List UInt8} {n : Nat} {st : St} (h : passM L n = st) (h0 : stN st ≠ 0) : n = stN st := by
  rcases passM_is L n with ⟨i, x, hp⟩ | hp
  · rw [hp] at h; subst h; exact absurd rfl h0
  · rw [hp] at h; subst h; rfl
theorem step_take {L : List UInt8} {m : Nat} {st : St} (h : stepM L = st) (h0 : stN st ≠ 0) (hm : stN st ≤ m) : stepM (L.take m) = st := by
  cases hq : L with
  | nil => rw [hq] at h; subst h; exact absurd rfl h0
  | cons c t =>
    obtain ⟨m, rfl⟩ : ∃ k, m = k + 1 := ⟨m - 1, by omega⟩
    have ht : L.take (m + 1) = c :: t.take m := by rw [hq]; rfl
    rw [step_eq hq] at h
    rw [← hq, step_eq ht]
    by_cases c1 : isBlank c = true
    · rw [if_pos c1] at h ⊢
      rw [passM_take (by omega)]; exact h
    · rw [if_neg c1] at h ⊢
      by_cases c2 : c = 59
      · rw [if_pos c2] at h ⊢
        have hn := passM_n h h0
        have hl : lineSz (L.take (m + 1)) = lineSz L := by
          show pre _ _ = pre _ _
          rw [pre_take]
          have : lineSz L = pre (· != 10) L := rfl
          omega
        rw [hl, passM_take (by omega)]; exact h
      · rw [if_neg c2] at h ⊢
        by_cases c3 : [35, 124].isPrefixOf L = true
        · rw [if_pos c3] at h
          have hn := passM_n h h0
          obtain ⟨h3, hr⟩ := remSz_take c3 (by omega) (m := m + 1) (by omega)
          rw [if_pos (pfx_take2 c3 (by show 2 ≤ m + 1; omega)), hr, passM_take (by omega)]; exact h
        · rw [if_neg c3] at h
          rw [if_neg (fun e => c3 (pfx_take e))]
          by_cases c4 : c = 34
          · rw [if_pos c4] at h ⊢
            cases st with
            | err i x => exact absurd rfl h0
            | pass n =>
              exfalso
              unfold quotM at h
              split at h
              · cases h
              · revert h
                cases unq (qsz L) ((L.take (qsz L - 1)).drop 1) 0 with
                | error j => intro h; cases h
                | ok l => intro h; cases h
            | tok x n b => rw [quotM_take (by rw [hq]; simp) h hm]; exact h
          · rw [if_neg c4] at h ⊢
            obtain ⟨k1, k2⟩ := mark_take (L := L) (m := m + 1) 9 (Nat.le_refl _)
            cases hmk : markO L with
            | some k =>
              rw [hmk] at h
              have h' : St.tok ⟨k, 0, []⟩ (mks.getD k []).length false = st := h
              subst h'
              have : markO (L.take (m + 1)) = some k := k1 k hmk hm
              rw [this]
            | none =>
              rw [hmk] at h
              have : markO (L.take (m + 1)) = none := k2 hmk
              rw [this]
              obtain ⟨l1, l2⟩ := lab_take (L := L) (m := m + 1)
              cases hlb : labO L with
              | some x =>
                obtain ⟨k, n, z⟩ := x
                rw [hlb] at h
                have h' : St.tok ⟨k, n, []⟩ z (decide (k = 16)) = st := h
                subst h'
                rw [l1 k n z hlb hm]
              | none =>
                rw [hlb] at h
                have hno : labO (L.take (m + 1)) = none := by
                  cases hx : labO (L.take (m + 1)) with
                  | none => rfl
                  | some x => have := l2 x hx; rw [hlb] at this; cases this
                rw [hno]
                have h' : wrdM L = st := h
                show wrdM (L.take (m + 1)) = st
                cases st with
                | err i x => exact absurd rfl h0
                | pass n =>
                  exfalso
                  unfold wrdM at h'
                  split at h'
                  · cases h'
                  · revert h'
                    cases hiB (L.take (wsz L)) with
                    | some j => intro h; cases h
                    | none => intro h; cases h
                | tok x n b => rw [wrd_take h' hm]; exact h'
end Go.Proofs.YthjjgpepgbfalaaGreatDoor.Lx
end
section
/-! Tokens' texts, purely; a step over a text that ends in a blank. -/
set_option maxRecDepth 20000
set_option linter.unusedSimpArgs false
set_option linter.unusedVariables false
namespace Go.Proofs.YthjjgpepgbfalaaGreatDoor.Lx

def two (n : Nat) : List UInt8 := [ch (n / 16 % 16), ch (n % 16)]
end Go.Proofs.YthjjgpepgbfalaaGreatDoor.Lx
end
section
/-! Each token that a scan takes is a token of which a step over its text takes just that token. -/
set_option maxRecDepth 20000
set_option linter.unusedSimpArgs false
set_option linter.unusedVariables false
namespace Go.Proofs.YthjjgpepgbfalaaGreatDoor.Lx

/-- Tokens that a scan takes. -/
inductive Gd : Tk → Prop
  | mark (k : Nat) (h : k < 9) : Gd ⟨k, 0, []⟩
  | dot : Gd ⟨9, 0, []⟩
  | int (n : Int) (h : Is64 n) : Gd ⟨10, n, []⟩
  | bool (b : Int) (h : b = 0 ∨ b = 1) : Gd ⟨11, b, []⟩
  | char (n : Nat) (h : n < 128) : Gd ⟨12, (n : Int), []⟩
  | str (s : List UInt8) (h : ∀ c ∈ s, c.toNat < 128) : Gd ⟨13, 0, s⟩
  | sym (s : List UInt8) (h : stepM s = .tok ⟨14, 0, s⟩ s.length true) : Gd ⟨14, 0, s⟩
  | lab (n : Nat) (h : n < 1000) : Gd ⟨15, (n : Int), []⟩
  | again (n : Nat) (h : n < 1000) : Gd ⟨16, (n : Int), []⟩

end Go.Proofs.YthjjgpepgbfalaaGreatDoor.Lx
end
section
/-! Of a whole scan: the places, and what is ahead of a place. -/
set_option maxRecDepth 20000
set_option linter.unusedSimpArgs false
set_option linter.unusedVariables false
namespace Go.Proofs.YthjjgpepgbfalaaGreatDoor.Lx

/-- Places that rise, from a on, below n. -/
def Rise : Nat → Nat → List (Tk × Nat) → Prop
  | _, _, [] => True
  | a, n, (_, p) :: l => a ≤ p ∧ p < n ∧ Rise (p + 1) n l
theorem Rise.mono {a b n : Nat} (h : b ≤ a) : ∀ {l : List (Tk × Nat)}, Rise a n l → Rise b n l
  | [], _ => trivial
  | (_, p) :: l, ⟨h1, h2, h3⟩ => ⟨by omega, h2, h3⟩
theorem Rise.at {n : Nat} : ∀ {l : List (Tk × Nat)} {a : Nat}, Rise a n l → ∀ i, i < l.length → a + i ≤ (l.getD i (⟨0, 0, []⟩, 0)).2 ∧ (l.getD i (⟨0, 0, []⟩, 0)).2 < n ∧ ∀ j, j < i → (l.getD j (⟨0, 0, []⟩, 0)).2 < (l.getD i (⟨0, 0, []⟩, 0)).2
  | [], a, _, i, hi => by simp at hi
  | (t, p) :: l, a, ⟨h1, h2, h3⟩, 0, hi => ⟨by simpa using h1, by simpa using h2, fun j hj => by omega⟩
  | (t, p) :: l, a, ⟨h1, h2, h3⟩, i + 1, hi => by
    obtain ⟨k1, k2, k3⟩ := Rise.at h3 i (by simpa using hi)
    simp only [List.getD_cons_succ]
    refine ⟨by omega, k2, fun j hj => ?_⟩
    cases j with
    | zero => simp only [List.getD_cons_zero]; omega
    | succ j => simp only [List.getD_cons_succ]; exact k3 j (by omega)
/-- What is known of a scan from a place on. -/
structure Scd (L : List UInt8) (f a : Nat) (tight : Bool) (l0 l : List (Tk × Nat)) (n : Nat) : Prop where
  len : n = L.length
  ris : ∃ l1, l = l0 ++ l1 ∧ Rise a L.length l1 ∧ ∀ k, k < l1.length → ∀ f', (l1.getD k (⟨0, 0, []⟩, 0)).2 - a < f' →
    scanM (L.take (l1.getD k (⟨0, 0, []⟩, 0)).2) f' a tight l0 = (some (l0 ++ l1.take k), (l1.getD k (⟨0, 0, []⟩, 0)).2, 0)
theorem scan_end (L : List UInt8) (f a : Nat) (tight : Bool) (l : List (Tk × Nat)) (h : L.length ≤ a) : scanM L f a tight l = (some l, a, 0) := by
  cases f with
  | zero => rfl
  | succ f => rw [scanM, if_pos h]
theorem scan_cd : ∀ (f : Nat) (L : List UInt8) (a : Nat) (tight : Bool) (l0 l : List (Tk × Nat)) (n : Nat) (e : Int), a ≤ L.length → L.length - a < f → scanM L f a tight l0 = (some l, n, e) → Scd L f a tight l0 l n := by
  intro f
  induction f with
  | zero => intro L a tight l0 l n e _ h; omega
  | succ f ih =>
    intro L a tight l0 l n e ha hf h
    by_cases hlt : a < L.length
    · rw [scanM_succ _ _ _ _ _ hlt] at h
      have hne : L.drop a ≠ [] := fun e => by
        have := congrArg List.length e
        rw [List.length_drop] at this
        simp at this; omega
      obtain ⟨sp1, sp2, sp3⟩ := step_pos hne
      rw [List.length_drop] at sp1 sp2
      obtain ⟨st, hst⟩ : ∃ st, stepM (L.drop a) = st := ⟨_, rfl⟩
      obtain ⟨ap, hap⟩ : ∃ ap, (!tight || parts (L.getD a 0)) = ap := ⟨_, rfl⟩
      rw [hst, hap] at h
      rw [hst] at sp1 sp2
      -- a cut text, one step on
      have hcut : ∀ p f', a < p → p ≤ L.length → stN st ≠ 0 → a + stN st ≤ p → scanM (L.take p) (f' + 1) a tight l0 = scanS (L.take p) f' a l0 ap st := fun p f' h1 h2 h3 h4 => by
        rw [scanM_succ _ _ _ _ _ (by rw [List.length_take]; omega), List.drop_take, step_take hst h3 (by omega), getD_take h1, hap]
      cases st with
      | err i x =>
        cases ap with
        | true => rw [s_err] at h; cases h
        | false =>
          by_cases hi : 0 < i
          · rw [s_err1 _ _ _ _ _ _ hi] at h; cases h
          · rw [s_err2 _ _ _ _ _ _ hi] at h; cases h
      | pass m =>
        obtain ⟨hm0, hmL⟩ := sp1 m rfl
        cases ap with
        | false => rw [s_pass0] at h; cases h
        | true =>
          rw [s_pass] at h
          obtain ⟨e1, l1, e2, e3, e4⟩ := ih L (a + m) false l0 l n e (by omega) (by omega) h
          refine ⟨e1, l1, e2, e3.mono (by omega), fun k hk f' hf' => ?_⟩
          obtain ⟨r1, r2, r3⟩ := e3.at k hk
          cases f' with
          | zero => omega
          | succ f' =>
            rw [hcut _ f' (by omega) (by omega) (by show m ≠ 0; omega) (by show a + m ≤ _; omega), s_pass]
            exact e4 k hk f' (by omega)
      | tok t m b =>
        obtain ⟨hm0, hmL⟩ := sp2 t m b rfl
        cases ap with
        | false => rw [s_tok0] at h; cases h
        | true =>
          rw [s_tok] at h
          obtain ⟨e1, l1, e2, e3, e4⟩ := ih L (a + m) b (l0 ++ [(t, a)]) l n e (by omega) (by omega) h
          refine ⟨e1, (t, a) :: l1, by rw [e2, List.append_assoc]; rfl, ⟨Nat.le_refl _, hlt, e3.mono (by omega)⟩, fun k hk f' hf' => ?_⟩
          cases k with
          | zero =>
            simp only [List.getD_cons_zero, List.take_zero, List.append_nil]
            exact scan_end _ _ _ _ _ (by rw [List.length_take]; omega)
          | succ k =>
            simp only [List.getD_cons_succ] at hf' ⊢
            obtain ⟨r1, r2, r3⟩ := e3.at k (by simpa using hk)
            cases f' with
            | zero => omega
            | succ f' =>
              rw [hcut _ f' (by omega) (by omega) (by show m ≠ 0; omega) (by show a + m ≤ _; omega), s_tok, e4 k (by simpa using hk) f' (by omega), List.append_assoc]
              rfl
    · have hae : a = L.length := by omega
      rw [scan_end _ _ _ _ _ (by omega)] at h
      injection h with h1 h2
      injection h1 with h1
      injection h2 with h2 h3
      exact ⟨by omega, [], by rw [h1, List.append_nil], trivial, fun k hk => by simp at hk⟩
/-- Of a text that is scanned: the places rise and lie in it; cut at a token's place it has just the tokens ahead. -/
theorem scanT_ok {L : List UInt8} {l : List (Tk × Nat)} {n : Nat} {e : Int} (h : scanT L = (some l, n, e)) : Rise 0 L.length l ∧ ∀ k, k < l.length → scanT (L.take (l.getD k (⟨0, 0, []⟩, 0)).2) = (some (l.take k), (l.getD k (⟨0, 0, []⟩, 0)).2, 0) := by
  unfold scanT at h
  by_cases h4 : 4096 < L.length
  · rw [if_pos h4] at h; cases h
  · rw [if_neg h4] at h
    obtain ⟨e1, l1, e2, e3, e4⟩ := scan_cd _ L 0 false [] l n e (Nat.zero_le _) (by omega) h
    rw [List.nil_append] at e2
    subst e2
    refine ⟨e3, fun k hk => ?_⟩
    obtain ⟨r1, r2, r3⟩ := e3.at k hk
    unfold scanT
    have hl : (L.take (l.getD k (⟨0, 0, []⟩, 0)).2).length = (l.getD k (⟨0, 0, []⟩, 0)).2 := by rw [List.length_take]; omega
    rw [hl, if_neg (by omega)]
    have := e4 k hk ((l.getD k (⟨0, 0, []⟩, 0)).2 + 1) (by omega)
    rw [List.nil_append] at this
    exact this
end Go.Proofs.YthjjgpepgbfalaaGreatDoor.Lx
end
section
/-! Tokens that were scanned, joined and scanned again, are the same. -/
set_option maxRecDepth 20000
set_option linter.unusedSimpArgs false
set_option linter.unusedVariables false
namespace Go.Proofs.YthjjgpepgbfalaaGreatDoor.Lx

theorem fitV_64 (x : Int) : Is64 (fitV x) := by
  unfold fitV
  by_cases h : fitB x = true
  · rw [if_pos h]
    have := of_decide_eq_true (p := -9223372036854775808 ≤ x ∧ x ≤ 9223372036854775807) h
    exact this
  · rw [if_neg h]; exact ⟨by decide, by decide⟩
theorem parseV_64 (b : Nat) (L : List UInt8) : Is64 (parseV b L) := by
  unfold parseV
  split
  · exact ⟨by decide, by decide⟩
  · exact fitV_64 _
theorem valT_lt : ∀ (k : Nat) (l : List UInt8), l.length = k → okT 10 l = true → valT 10 l < 10 ^ l.length
  | 0, l, hl, _ => by rw [List.eq_nil_of_length_eq_zero hl]; decide
  | k + 1, l, hl, h => by
    rcases List.eq_nil_or_concat l with rfl | ⟨l, c, rfl⟩
    · simp at hl
    · rw [List.concat_eq_append] at hl h ⊢
      rw [List.length_append] at hl
      rw [okT_snoc, Bool.and_eq_true] at h
      have h1 := valT_lt k l (by simpa using hl) h.1
      have h2 := of_decide_eq_true h.2
      rw [valT_snoc, List.length_append]
      show _ < 10 ^ (l.length + 1)
      rw [Nat.pow_succ]; omega
theorem lab_num (d : List UInt8) (h3 : d.length ≤ 3) (h1 : d ≠ []) (hd : ∀ c ∈ d, isDig c = true) : ∃ n : Nat, n < 1000 ∧ parseV 10 d = (n : Int) := by
  obtain ⟨c, t, rfl⟩ := List.exists_cons_of_ne_nil h1
  have hc := hd c (List.mem_cons_self ..)
  have hn : c ≠ 45 ∧ c ≠ 43 := ⟨fun e => by rw [e] at hc; exact absurd hc (by decide), fun e => by rw [e] at hc; exact absurd hc (by decide)⟩
  have hg : cutG (c :: t) = 1 := by unfold cutG; split <;> simp_all
  unfold parseV
  split
  · exact ⟨0, by decide, rfl⟩
  · rename_i hx
    have hok : okT 10 (cutR (c :: t)) = true := by
      cases ho : okT 10 (cutR (c :: t)) with
      | true => rfl
      | false => exact absurd (Or.inr ho) hx
    have h4 := valT_lt _ _ rfl hok
    have h5 := cutR_len (c :: t)
    have h6 : 10 ^ (cutR (c :: t)).length ≤ 10 ^ 3 := Nat.pow_le_pow_right (by decide) (by omega)
    have h7 : (10 : Nat) ^ 3 = 1000 := by decide
    rw [hg, Int.one_mul]
    exact ⟨valT 10 (cutR (c :: t)), by omega, fitV_yes ⟨by omega, by omega⟩⟩
theorem lab_gd {L : List UInt8} {k z : Nat} {n : Int} (h : labO L = some (k, n, z)) : Gd ⟨k, n, []⟩ := by
  rw [labO_eq] at h
  split at h
  · have hall : ∀ c ∈ (L.drop 1).takeWhile isDig, isDig c = true := fun c hc => List.all_eq_true.1 List.all_takeWhile c hc
    generalize hD : (L.drop 1).takeWhile isDig = D at h hall
    by_cases hb : D.length < 1 ∨ 3 < D.length ∨ D.length = (L.drop 1).length
    · rw [if_pos hb] at h; cases h
    · rw [if_neg hb] at h
      obtain ⟨m, hm, hv⟩ := lab_num D (by omega) (fun e => by rw [e] at hb; simp at hb) hall
      rw [hv] at h
      split at h
      · injection h with h; injection h with a b; injection b with b c; subst a; subst b; exact .lab m hm
      · split at h
        · injection h with h; injection h with a b; injection b with b c; subst a; subst b; exact .again m hm
        · cases h
  · cases h
theorem mark_lt (L : List UInt8) : ∀ (j k : Nat), markGo L j = some k → k < j
  | 0, k, h => by cases h
  | j + 1, k, h => by
    unfold markGo at h
    split at h
    · injection h with h; omega
    · have := mark_lt L j k h; omega
theorem unq_lt : ∀ (f : Nat) (L : List UInt8) (i : Nat) (l : List UInt8), unq f L i = .ok l → ∀ c ∈ l, c.toNat < 128
  | 0, L, i, l, h, c, hc => by injection h with h; subst h; cases hc
  | f + 1, [], i, l, h, c, hc => by injection h with h; subst h; cases hc
  | f + 1, d :: t, i, l, h, c, hc => by
    rw [unq] at h
    generalize (if d = 92 then esc (d :: t) else (d.toNat, 1)) = r at h
    by_cases hz : r.2 = 0 ∨ 128 ≤ r.1
    · rw [if_pos hz] at h; cases h
    · rw [if_neg hz] at h
      revert h
      cases hu : unq f ((d :: t).drop r.2) (i + r.2) with
      | error j => intro h; cases h
      | ok l' =>
        intro h
        injection h with h
        subst h
        rcases List.mem_cons.1 hc with rfl | hc
        · have : r.1 < 128 := by omega
          rw [UInt8.toNat_ofNat']; omega
        · exact unq_lt f _ _ _ hu c hc
theorem hiB_lt {L : List UInt8} (h : hiB L = none) : ∀ c ∈ L, c.toNat < 128 := by
  intro c hc
  unfold hiB at h
  rw [List.findIdx?_eq_none_iff] at h
  have := of_decide_eq_false (h c hc)
  omega
theorem nms_lt : ∀ x ∈ nms, x.2 < 128 := by decide
theorem chr_lt {L : List UInt8} {n : Nat} (hL : ∀ c ∈ L, c.toNat < 128) (h : chrO L = some n) : n < 128 := by
  unfold chrO at h
  split at h
  · unfold charO at h
    by_cases h1 : (L.drop 2).length = 1
    · rw [if_pos h1] at h
      injection h with h
      obtain ⟨c, hc⟩ : ∃ c, L.drop 2 = [c] := List.length_eq_one_iff.1 h1
      rw [hc] at h
      rw [← h]
      exact hL c (List.mem_of_mem_drop (i := 2) (by rw [hc]; exact List.mem_cons_self ..))
    · rw [if_neg h1] at h
      revert h
      cases hl : nms.lookup (L.drop 2) with
      | some m =>
        intro h
        injection h with h
        subst h
        have : ∃ k, (k, m) ∈ nms := by
          generalize nms = q at hl
          induction q with
          | nil => cases hl
          | cons x q ih =>
            obtain ⟨a, b⟩ := x
            rw [List.lookup_cons] at hl
            split at hl
            · injection hl with hl; subst hl; exact ⟨a, List.mem_cons_self ..⟩
            · obtain ⟨k, hk⟩ := ih hl; exact ⟨k, List.mem_cons_of_mem _ hk⟩
        obtain ⟨k, hk⟩ := this
        exact nms_lt _ hk
      | none =>
        intro h
        have h : (if [120].isPrefixOf (L.drop 2) then byteO ((L.drop 2).drop 1) else none) = some n := h
        split at h
        · unfold byteO at h
          split at h
          · rename_i hb
            injection h with h
            unfold byteOk at hb
            rw [Bool.and_eq_true, Bool.and_eq_true] at hb
            have := of_decide_eq_true hb.2.2
            omega
          · cases h
        · cases h
  · cases h
theorem gd_step {L : List UInt8} {t : Tk} {m : Nat} {b : Bool} (h : stepM L = .tok t m b) : Gd t := by
  have h00 := h
  cases hq : L with
  | nil => rw [hq] at h; cases h
  | cons c A =>
    have hno : ∀ n, passM L n ≠ .tok t m b := fun n => by
      rcases passM_is L n with ⟨i, x, hp⟩ | hp <;> rw [hp] <;> intro e <;> cases e
    rw [step_eq hq] at h
    by_cases c1 : isBlank c = true
    · rw [if_pos c1] at h; exact absurd h (hno _)
    · rw [if_neg c1] at h
      by_cases c2 : c = 59
      · rw [if_pos c2] at h; exact absurd h (hno _)
      · rw [if_neg c2] at h
        by_cases c3 : [35, 124].isPrefixOf L = true
        · rw [if_pos c3] at h; exact absurd h (hno _)
        · rw [if_neg c3] at h
          by_cases c4 : c = 34
          · rw [if_pos c4] at h
            unfold quotM at h
            split at h
            · cases h
            · revert h
              cases hu : unq (qsz L) ((L.take (qsz L - 1)).drop 1) 0 with
              | error j => intro h; cases h
              | ok l =>
                intro h
                injection h with h1 h2 h3
                subst h1
                exact .str l (unq_lt _ _ _ _ hu)
          · rw [if_neg c4] at h
            cases hmk : markO L with
            | some k =>
              rw [hmk] at h
              injection h with h1 h2 h3
              subst h1
              exact .mark k (mark_lt L 9 k hmk)
            | none =>
              rw [hmk] at h
              cases hlb : labO L with
              | some x =>
                obtain ⟨k, n, z⟩ := x
                rw [hlb] at h
                injection h with h1 h2 h3
                subst h1
                exact lab_gd hlb
              | none =>
                rw [hlb] at h
                have h' : wrdM L = .tok t m b := h
                unfold wrdM at h'
                by_cases he : (wordM (L.take (wsz L))).2 ≠ 0
                · rw [if_pos he] at h'; cases h'
                · rw [if_neg he] at h'
                  have he : (wordM (L.take (wsz L))).2 = 0 := by
                    rcases Int.lt_trichotomy (wordM (L.take (wsz L))).2 0 with x | x | x
                    · exact absurd (by omega) he
                    · exact x
                    · exact absurd (by omega) he
                  revert h'
                  cases hh : hiB (L.take (wsz L)) with
                  | some j => intro h'; cases h'
                  | none =>
                    intro h'
                    have hw := hiB_lt hh
                    injection h' with h1 h2 h3
                    have hstep : t = ⟨14, 0, L.take (wsz L)⟩ → stepM (L.take (wsz L)) = .tok t (L.take (wsz L)).length true := fun _ => by
                      have hp := step_pos (L := L) (by rw [hq]; simp)
                      obtain ⟨hp1, hp2⟩ := hp.2.1 t m b h00
                      have hs := step_take (m := m) h00 (by show m ≠ 0; omega) (Nat.le_refl _)
                      have : L.take m = L.take (wsz L) := by
                        rw [List.length_take] at h2
                        by_cases hle : wsz L ≤ L.length
                        · rw [Nat.min_eq_left hle] at h2; rw [h2]
                        · exact absurd (wsz_le L) hle
                      rw [this] at hs
                      rw [hs, h2, ← h3]
                    generalize hW : L.take (wsz L) = W at he hw h1 hstep
                    unfold wordM at he h1
                    by_cases w1 : W = [46]
                    · rw [if_pos w1] at h1; subst h1; exact .dot
                    · rw [if_neg w1] at he h1
                      by_cases w2 : parseE (cutB W).1 (cutB W).2 ≠ 4
                      · rw [if_pos w2] at h1; subst h1; exact .int _ (parseV_64 _ _)
                      · rw [if_neg w2] at he h1
                        cases hb : boolO W with
                        | some x =>
                          rw [hb] at h1
                          subst h1
                          unfold boolO at hb
                          split at hb
                          · injection hb with hb; subst hb; exact .bool _ (Or.inr rfl)
                          · split at hb
                            · injection hb with hb; subst hb; exact .bool _ (Or.inl rfl)
                            · cases hb
                        | none =>
                          rw [hb] at he h1
                          cases hc : chrO W with
                          | some n =>
                            rw [hc] at h1
                            subst h1
                            exact .char n (chr_lt hw hc)
                          | none =>
                            rw [hc] at he h1
                            by_cases w3 : W = [] ∨ W.contains 35 = true ∨ begN W = true
                            · have he : (if W = [] ∨ W.contains 35 = true ∨ begN W = true then ((⟨0, 0, []⟩ : Tk), (4 : Int)) else if 32 < W.length then (⟨0, 0, []⟩, 2) else (⟨14, 0, W⟩, 0)).2 = 0 := he
                              rw [if_pos w3] at he; cases he
                            · have he : (if W = [] ∨ W.contains 35 = true ∨ begN W = true then ((⟨0, 0, []⟩ : Tk), (4 : Int)) else if 32 < W.length then (⟨0, 0, []⟩, 2) else (⟨14, 0, W⟩, 0)).2 = 0 := he
                              have h1 : (if W = [] ∨ W.contains 35 = true ∨ begN W = true then ((⟨0, 0, []⟩ : Tk), (4 : Int)) else if 32 < W.length then (⟨0, 0, []⟩, 2) else (⟨14, 0, W⟩, 0)).1 = t := h1
                              rw [if_neg w3] at he h1
                              by_cases w4 : 32 < W.length
                              · rw [if_pos w4] at he; cases he
                              · rw [if_neg w4] at h1
                                have h1 : (⟨14, 0, W⟩ : Tk) = t := h1
                                have hs := hstep h1.symm
                                subst h1
                                exact .sym W hs
theorem scan_gd : ∀ (f : Nat) (L : List UInt8) (a : Nat) (tight : Bool) (l0 l : List (Tk × Nat)) (n : Nat) (e : Int), (∀ x ∈ l0, Gd x.1) → scanM L f a tight l0 = (some l, n, e) → ∀ x ∈ l, Gd x.1 := by
  intro f
  induction f with
  | zero => intro L a tight l0 l n e h0 h; injection h with h1 _; injection h1 with h1; subst h1; exact h0
  | succ f ih =>
    intro L a tight l0 l n e h0 h
    by_cases hlt : a < L.length
    · rw [scanM_succ _ _ _ _ _ hlt] at h
      generalize (!tight || parts (L.getD a 0)) = ap at h
      cases hst : stepM (L.drop a) with
      | err i y =>
        rw [hst] at h
        cases ap with
        | true => rw [s_err] at h; cases h
        | false =>
          by_cases hi : 0 < i
          · rw [s_err1 _ _ _ _ _ _ hi] at h; cases h
          · rw [s_err2 _ _ _ _ _ _ hi] at h; cases h
      | pass m =>
        rw [hst] at h
        cases ap with
        | true => rw [s_pass] at h; exact ih _ _ _ _ _ _ _ h0 h
        | false => rw [s_pass0] at h; cases h
      | tok t m b =>
        rw [hst] at h
        cases ap with
        | true =>
          rw [s_tok] at h
          refine ih _ _ _ _ _ _ _ (fun x hx => ?_) h
          rcases List.mem_append.1 hx with hx | hx
          · exact h0 x hx
          · rw [List.mem_singleton.1 hx]; exact gd_step hst
        | false => rw [s_tok0] at h; cases h
    · rw [scan_end _ _ _ _ _ (by omega)] at h; injection h with h1 _; injection h1 with h1; subst h1; exact h0
theorem scanT_gd {L : List UInt8} {l : List (Tk × Nat)} {n : Nat} {e : Int} (h : scanT L = (some l, n, e)) : ∀ x ∈ l, Gd x.1 := by
  unfold scanT at h
  split at h
  · cases h
  · exact scan_gd _ _ _ _ _ _ _ _ (fun x hx => by cases hx) h
end Go.Proofs.YthjjgpepgbfalaaGreatDoor.Lx
end
