/- A step of the scan looks at no byte behind what it takes. -/
import Derived.Test.YtjpbbooeihdnfaaDoorLD9
set_option maxRecDepth 20000
set_option linter.unusedSimpArgs false
set_option linter.unusedVariables false
namespace Go.Proofs.YtjpbbooeihdnfaaDoor

theorem pre_take (p : UInt8 → Bool) : ∀ (L : List UInt8) (m : Nat), pre p (L.take m) = min m (pre p L)
  | [], m => by simp [pre]
  | c :: t, 0 => by simp [pre]
  | c :: t, m + 1 => by
    have ih := pre_take p t m
    unfold pre at ih ⊢
    rw [List.take_succ_cons, List.takeWhile_cons, List.takeWhile_cons]
    rcases p c with _ | _
    · simp
    · simp only [if_true, List.length_cons]
      rw [ih]; omega
theorem pfx_take {p : List UInt8} : ∀ {L : List UInt8} {m : Nat}, p.isPrefixOf (L.take m) = true → p.isPrefixOf L = true := by
  intro L m h
  obtain ⟨r, hr⟩ := List.isPrefixOf_iff_prefix.1 h
  exact List.isPrefixOf_iff_prefix.2 (List.IsPrefix.trans ⟨r, hr⟩ (List.take_prefix _ _))
theorem pfx_take2 {p L : List UInt8} {m : Nat} (h : p.isPrefixOf L = true) (hm : p.length ≤ m) : p.isPrefixOf (L.take m) = true := by
  obtain ⟨r, rfl⟩ := pre_of h
  rw [List.take_append]
  rw [List.take_of_length_le hm]
  exact List.isPrefixOf_iff_prefix.2 ⟨_, rfl⟩
theorem pfx_eq {p L : List UInt8} {m : Nat} (hm : p.length ≤ m) : p.isPrefixOf (L.take m) = p.isPrefixOf L := by
  rw [← Bool.coe_iff_coe]
  exact ⟨pfx_take, fun h => pfx_take2 h hm⟩
theorem take2 (L : List UInt8) {n m : Nat} (h : n ≤ m) : (L.take m).take n = L.take n := by rw [List.take_take, Nat.min_eq_left h]
theorem passM_take {L : List UInt8} {n m : Nat} (h : n ≤ m) : passM (L.take m) n = passM L n := by unfold passM; rw [take2 L h]
theorem rem_gt : ∀ (k : Nat) (L : List UInt8) (o : Int) (i : Nat), L.length ≤ k → remGo L o i ≠ 0 → i < remGo L o i := by
  intro k
  induction k with
  | zero =>
    intro L o i h h0
    have : L = [] := List.eq_nil_of_length_eq_zero (by omega)
    subst this
    exact absurd rfl h0
  | succ k ih =>
    intro L o i h h0
    match L, h, h0 with
    | [], _, h0 => exact absurd rfl h0
    | [_], _, h0 => exact absurd rfl h0
    | a :: b :: t, h, h0 =>
      have ht : t.length ≤ k := by simp at h; omega
      have hbt : (b :: t).length ≤ k := by simp at h ⊢; omega
      rw [remGo] at h0 ⊢
      split at h0
      · rename_i c1
        rw [if_pos c1]
        split at h0
        · rename_i c2; rw [if_pos c2]; omega
        · rename_i c2; rw [if_neg c2]; have := ih t _ _ ht h0; omega
      · rename_i c1
        rw [if_neg c1]
        split at h0
        · rename_i c3
          rw [if_pos c3]
          split at h0
          · rename_i c2; rw [if_pos c2]; omega
          · rename_i c2; rw [if_neg c2]; have := ih t _ _ ht h0; omega
        · rename_i c3
          rw [if_neg c3]
          split at h0
          · rename_i c2; rw [if_pos c2]; omega
          · rename_i c2; rw [if_neg c2]; have := ih (b :: t) _ _ hbt h0; omega
theorem rem_take : ∀ (k : Nat) (L : List UInt8) (o : Int) (i m : Nat), L.length ≤ k → o ≠ 0 → remGo L o i ≠ 0 → remGo L o i ≤ i + m → remGo (L.take m) o i = remGo L o i := by
  intro k
  induction k with
  | zero =>
    intro L o i m h ho h0
    have : L = [] := List.eq_nil_of_length_eq_zero (by omega)
    subst this
    exact absurd rfl h0
  | succ k ih =>
    intro L o i m h ho h0 hm
    match L, h, h0, hm with
    | [], _, h0, _ => exact absurd rfl h0
    | [_], _, h0, _ => exact absurd rfl h0
    | a :: b :: t, h, h0, hm =>
      have ht : t.length ≤ k := by simp at h; omega
      have hbt : (b :: t).length ≤ k := by simp at h ⊢; omega
      have hgt := rem_gt _ (a :: b :: t) o i (Nat.le_refl _) h0
      match m, hm with
      | 0, hm => omega
      | 1, hm =>
        exfalso
        rw [remGo] at h0 hgt hm
        split at hm
        · rename_i c1
          rw [if_pos c1] at h0
          split at hm
          · omega
          · rename_i c2; rw [if_neg c2] at h0; have := rem_gt _ t _ _ (Nat.le_refl _) h0; omega
        · rename_i c1
          rw [if_neg c1] at h0
          split at hm
          · rename_i c3
            rw [if_pos c3] at h0
            split at hm
            · omega
            · rename_i c2; rw [if_neg c2] at h0; have := rem_gt _ t _ _ (Nat.le_refl _) h0; omega
          · rename_i c3
            rw [if_neg c3, if_neg ho] at h0
            have := rem_gt _ (b :: t) _ _ (Nat.le_refl _) h0; omega
      | m + 2, hm =>
        rw [List.take_succ_cons, List.take_succ_cons]
        rw [remGo] at h0 hm ⊢
        rw [remGo]
        split
        · rename_i c1
          rw [if_pos c1] at h0 hm
          split
          · rfl
          · rename_i c2
            rw [if_neg c2] at h0 hm
            exact ih t _ _ m ht c2 h0 (by omega)
        · rename_i c1
          rw [if_neg c1] at h0 hm
          split
          · rename_i c3
            rw [if_pos c3] at h0 hm
            split
            · rfl
            · rename_i c2
              rw [if_neg c2] at h0 hm
              exact ih t _ _ m ht c2 h0 (by omega)
          · rename_i c3
            rw [if_neg c3, if_neg ho] at h0 hm
            · have := ih (b :: t) o (i + 1) (m + 1) hbt ho h0 (by omega)
              rw [List.take_succ_cons] at this
              exact this
theorem remSz_take {L : List UInt8} {m : Nat} (hp : [35, 124].isPrefixOf L = true) (h0 : remSz L ≠ 0) (hm : remSz L ≤ m) : 3 ≤ m ∧ remSz (L.take m) = remSz L := by
  obtain ⟨r, rfl⟩ := pre_of hp
  have e : ∀ t : List UInt8, remSz (35 :: 124 :: t) = remGo t 1 2 := fun t => by
    show remGo (35 :: 124 :: t) 0 0 = _
    rw [remGo, if_pos ⟨rfl, rfl⟩, if_neg (by decide)]; rfl
  have h1 : ([35, 124] : List UInt8) ++ r = 35 :: 124 :: r := rfl
  rw [h1, e] at h0 hm ⊢
  have hgt := rem_gt _ r 1 2 (Nat.le_refl _) h0
  refine ⟨by omega, ?_⟩
  obtain ⟨m2, rfl⟩ : ∃ m2, m = m2 + 2 := ⟨m - 2, by omega⟩
  rw [List.take_succ_cons, List.take_succ_cons, e]
  exact rem_take _ r 1 2 m2 (Nat.le_refl _) (by decide) h0 (by omega)
theorem qGo_take : ∀ (k : Nat) (L : List UInt8) (i m : Nat), L.length ≤ k → qGo L i ≠ 0 → qGo L i ≤ i + m → qGo (L.take m) i = qGo L i := by
  intro k
  induction k with
  | zero =>
    intro L i m h h0
    have : L = [] := List.eq_nil_of_length_eq_zero (by omega)
    subst this
    exact absurd rfl h0
  | succ k ih =>
    intro L i m h h0 hm
    cases L with
    | nil => exact absurd rfl h0
    | cons c t =>
      have hgt := (qGo_spec _ (c :: t) i _ (Nat.le_refl _) rfl h0).1
      cases m with
      | zero => omega
      | succ m =>
        rw [List.take_succ_cons]
        rw [qGo_cons] at h0 hm ⊢
        rw [qGo_cons]
        by_cases c1 : c = 34
        · rw [if_pos c1, if_pos c1]
        · rw [if_neg c1] at h0 hm
          rw [if_neg c1, if_neg c1]
          by_cases c2 : c = 92
          · rw [if_pos c2] at h0 hm
            rw [if_pos c2, if_pos c2]
            have hgt2 := (qGo_spec _ (t.drop 1) (i + 2) _ (Nat.le_refl _) rfl h0).1
            have hd : (t.take m).drop 1 = (t.drop 1).take (m - 1) := by rw [List.drop_take]
            rw [hd]
            exact ih (t.drop 1) (i + 2) (m - 1) (by rw [List.length_drop]; simp at h; omega) h0 (by omega)
          · rw [if_neg c2] at h0 hm
            rw [if_neg c2, if_neg c2]
            exact ih t (i + 1) m (by simp at h; omega) h0 (by omega)
theorem quotM_take {L : List UInt8} {m n : Nat} {x : Tk} {b : Bool} (hL : L ≠ []) (h : quotM L = .tok x n b) (hm : n ≤ m) : quotM (L.take m) = quotM L := by
  unfold quotM at h
  by_cases hz : qsz L = 0
  · rw [if_pos hz] at h; cases h
  · rw [if_neg hz] at h
    have hn : qsz L ≤ m := by
      revert h
      cases unq (qsz L) ((L.take (qsz L - 1)).drop 1) 0 with
      | error j => intro h; cases h
      | ok l => intro h; injection h with h1 h2 h3; omega
    obtain ⟨s1, s2, s3⟩ := qsz_spec hz hL
    have hq : qsz (L.take m) = qsz L := by
      show qGo ((L.take m).drop 1) 1 = qGo (L.drop 1) 1
      rw [List.drop_take]
      exact qGo_take _ _ 1 (m - 1) (Nat.le_refl _) hz (by have : qGo (L.drop 1) 1 ≤ m := hn; omega)
    unfold quotM
    rw [hq, take2 L (by omega)]
theorem mark_take {L : List UInt8} {m : Nat} : ∀ (j : Nat), j ≤ 9 → (∀ k, markGo L j = some k → (mks.getD k []).length ≤ m → markGo (L.take m) j = some k) ∧ (markGo L j = none → markGo (L.take m) j = none) := by
  intro j
  induction j with
  | zero => intro _; exact ⟨fun k h => (by cases h), fun _ => rfl⟩
  | succ j ih =>
    intro hj
    obtain ⟨i1, i2⟩ := ih (by omega)
    have e : ∀ L : List UInt8, markGo L (j + 1) = if (mks.getD j []).isPrefixOf L then some j else markGo L j := fun _ => rfl
    rw [e, e]
    by_cases hp : (mks.getD j []).isPrefixOf L = true
    · rw [if_pos hp]
      refine ⟨fun k h hk => ?_, fun h => (by cases h)⟩
      injection h with h
      subst h
      rw [if_pos (pfx_take2 hp hk)]
    · rw [if_neg hp, if_neg (fun h => hp (pfx_take h))]
      exact ⟨i1, i2⟩
end Go.Proofs.YtjpbbooeihdnfaaDoor
