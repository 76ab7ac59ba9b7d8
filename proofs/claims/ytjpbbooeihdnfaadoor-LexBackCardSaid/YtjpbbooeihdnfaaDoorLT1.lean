/- Tokens' texts, purely; a step over a text that ends in a blank. -/
import Derived.Test.YtjpbbooeihdnfaaDoorLP2
set_option maxRecDepth 20000
set_option linter.unusedSimpArgs false
set_option linter.unusedVariables false
namespace Go.Proofs.YtjpbbooeihdnfaaDoor

def two (n : Nat) : List UInt8 := [ch (n / 16 % 16), ch (n % 16)]
/-- What stands behind a character's mark. -/
def chrT (n : Nat) : List UInt8 :=
  match nms.find? (fun x => x.2 == n) with
  | some x => x.1
  | none => if 33 ≤ n ∧ n ≤ 126 then [UInt8.ofNat n] else 120 :: two n
def escW : List UInt8 := [34, 92, 10, 9, 13]
def escT : List UInt8 := [34, 92, 110, 116, 114]
def piece (c : UInt8) : List UInt8 :=
  if escW.contains c then [92, escT.getD (escW.idxOf c) 0] else if c.toNat < 32 ∨ c = 127 then [92, 120] ++ two c.toNat ++ [59] else [c]
def bodyT (s : List UInt8) : List UInt8 := s.flatMap piece
def quoT (s : List UInt8) : List UInt8 := 34 :: (bodyT s ++ [34])
/-- A token's text. -/
def texM (t : Tk) : List UInt8 :=
  if t.k = 9 then [46]
  else if t.k = 10 then numText 10 t.n
  else if t.k = 11 then (if t.n = 0 then [35, 102] else [35, 116])
  else if t.k = 12 then 35 :: 92 :: chrT t.n.toNat
  else if t.k = 13 then quoT t.s
  else if t.k = 14 then t.s
  else if t.k = 15 then 35 :: (numText 10 t.n ++ [61])
  else if t.k = 16 then 35 :: (numText 10 t.n ++ [35])
  else mks.getD t.k []
theorem pfx_blank : ∀ {p T r : List UInt8}, (32 : UInt8) ∉ p → p.isPrefixOf (T ++ 32 :: r) = p.isPrefixOf T
  | [], T, r, _ => by simp
  | a :: p, [], r, h => by
    have : (a == (32 : UInt8)) = false := beq_false_of_ne (fun e => h (by rw [e]; exact List.mem_cons_self ..))
    show (a == 32 && p.isPrefixOf r) = false
    rw [this]; rfl
  | a :: p, b :: T, r, h => by
    show (a == b && p.isPrefixOf (T ++ 32 :: r)) = (a == b && p.isPrefixOf T)
    rw [pfx_blank (fun e => h (List.mem_cons_of_mem _ e))]
theorem tw_blank {p : UInt8 → Bool} (h : p 32 = false) : ∀ (A r : List UInt8), (A ++ 32 :: r).takeWhile p = A.takeWhile p
  | [], r => by simp [h]
  | a :: A, r => by
    rw [List.cons_append, List.takeWhile_cons, List.takeWhile_cons, tw_blank h A r]
theorem qGo_app : ∀ (k : Nat) (T X : List UInt8) (i : Nat), T.length ≤ k → qGo T i ≠ 0 → qGo (T ++ X) i = qGo T i ∧ qGo T i ≤ i + T.length
  | _, [], X, i, _, h => by simp [qGo] at h
  | 0, c :: t, X, i, hk, h => by simp at hk
  | k + 1, c :: t, X, i, hk, h => by
    rw [List.length_cons] at hk ⊢
    rw [List.cons_append]
    unfold qGo at h ⊢
    by_cases c1 : c = 34
    · rw [if_pos c1, if_pos c1]; exact ⟨rfl, by omega⟩
    · rw [if_neg c1, if_neg c1]
      rw [if_neg c1] at h
      by_cases c2 : c = 92
      · rw [if_pos c2, if_pos c2]
        rw [if_pos c2] at h
        cases t with
        | nil => simp at h
        | cons d u =>
          rw [List.length_cons] at hk ⊢
          obtain ⟨h1, h2⟩ := qGo_app k u X (i + 2) (by omega) h
          exact ⟨h1, by show qGo u (i + 2) ≤ _; omega⟩
      · rw [if_neg c2, if_neg c2]
        rw [if_neg c2] at h
        obtain ⟨h1, h2⟩ := qGo_app k t X (i + 1) (by omega) h
        exact ⟨h1, by omega⟩
theorem mark_blank (T r : List UInt8) : ∀ j, j ≤ 9 → markGo (T ++ 32 :: r) j = markGo T j
  | 0, _ => rfl
  | j + 1, h => by
    have hn : (32 : UInt8) ∉ mks.getD j [] := by
      have : ∀ i : Fin 9, (32 : UInt8) ∉ mks.getD i.1 [] := by decide
      exact this ⟨j, by omega⟩
    unfold markGo
    rw [pfx_blank hn, mark_blank T r j (by omega)]
theorem lab_blank {T : List UInt8} (hT : T ≠ []) (r : List UInt8) : labO (T ++ 32 :: r) = labO T := by
  obtain ⟨c, A, rfl⟩ := List.exists_cons_of_ne_nil hT
  have hd : (c :: A ++ 32 :: r).drop 1 = A ++ 32 :: r := rfl
  rw [labO_eq, labO_eq (c :: A), pfx_blank (by decide), hd, tw_blank (by decide), show (c :: A).drop 1 = A from rfl]
  have hle := (List.takeWhile_sublist (l := A) isDig).length_le
  generalize A.takeWhile isDig = D at hle
  rw [List.length_append, List.length_cons]
  by_cases hp : [35].isPrefixOf (c :: A) = true
  · rw [if_pos hp, if_pos hp]
    by_cases he : D.length = A.length
    · rw [if_pos (Or.inr (Or.inr he))]
      have hg : (A ++ 32 :: r).getD D.length 0 = 32 := by rw [he, List.getD_eq_getElem?_getD, List.getElem?_append_right (Nat.le_refl _)]; simp
      rw [hg]
      split
      · rfl
      · rfl
    · have hg : (A ++ 32 :: r).getD D.length 0 = A.getD D.length 0 := by rw [List.getD_eq_getElem?_getD, List.getD_eq_getElem?_getD, List.getElem?_append_left (by omega)]
      rw [hg]
      have e1 : (D.length < 1 ∨ 3 < D.length ∨ D.length = A.length + (r.length + 1)) ↔ (D.length < 1 ∨ 3 < D.length ∨ D.length = A.length) := by omega
      simp only [e1]
  · rw [if_neg hp, if_neg hp]
theorem wrd_blank {T : List UInt8} {t : Tk} {n : Nat} {b : Bool} (h : wrdM T = .tok t n b) (hn : n = T.length) (r : List UInt8) : wrdM (T ++ 32 :: r) = wrdM T := by
  have hw : wsz T = T.length := by
    have h0 := h
    have hle := wsz_le T
    unfold wrdM at h
    split at h
    · cases h
    · revert h
      cases hiB (T.take (wsz T)) with
      | some j => intro h; cases h
      | none => intro h; injection h with h1 h2 h3; rw [List.length_take] at h2; omega
  have hne2 : T ≠ [35, 92] := fun e => by
    rw [e] at h
    have : wrdM [35, 92] = .err 0 4 := by decide +kernel
    rw [this] at h; cases h
  have hk : wordK (T ++ 32 :: r) = wordK T := by
    unfold wordK
    rw [pfx_blank (by decide)]
    by_cases hp : [35, 92].isPrefixOf T = true
    · rw [if_pos hp, if_pos hp]
      have h3 : 3 ≤ T.length := by
        obtain ⟨s, hs⟩ := List.isPrefixOf_iff_prefix.1 hp
        cases s with
        | nil => exact absurd hs.symm hne2
        | cons x s => rw [← hs]; simp
      rw [List.length_append]; omega
    · rw [if_neg hp, if_neg hp]
  have hwk : wordK T ≤ T.length := by unfold wsz at hw; omega
  have hz : wsz (T ++ 32 :: r) = wsz T := by
    unfold wsz
    rw [hk, List.drop_append_of_le_length hwk]
    unfold pre
    rw [tw_blank (by decide)]
  unfold wrdM
  rw [hz, List.take_append_of_le_length (by omega)]
theorem quot_blank {T : List UInt8} {t : Tk} {n : Nat} {b : Bool} (hT : T ≠ []) (h : quotM T = .tok t n b) (X : List UInt8) : quotM (T ++ X) = quotM T := by
  obtain ⟨c, A, rfl⟩ := List.exists_cons_of_ne_nil hT
  have h0 : qsz (c :: A) ≠ 0 := fun e => by unfold quotM at h; rw [if_pos e] at h; cases h
  have h1 := qGo_app _ A X 1 (Nat.le_refl _) h0
  have hz : qsz (c :: A ++ X) = qsz (c :: A) := h1.1
  have hl : qsz (c :: A) ≤ (c :: A).length := by have := h1.2; show qGo A 1 ≤ A.length + 1; omega
  unfold quotM
  rw [hz, List.take_append_of_le_length (by omega)]
theorem step_blank {T : List UInt8} {t : Tk} {b : Bool} (h : stepM T = .tok t T.length b) (r : List UInt8) : stepM (T ++ 32 :: r) = .tok t T.length b := by
  cases hq : T with
  | nil => rw [hq] at h; cases h
  | cons c A =>
    have hne : T ≠ [] := by rw [hq]; simp
    have hno : ∀ n, passM T n ≠ .tok t T.length b := fun n => by
      rcases passM_is T n with ⟨i, x, hp⟩ | hp <;> rw [hp] <;> intro e <;> cases e
    have hL : T ++ 32 :: r = c :: (A ++ 32 :: r) := by rw [hq]; rfl
    rw [← hq, step_eq hL]
    rw [step_eq hq] at h
    by_cases c1 : isBlank c = true
    · rw [if_pos c1] at h; exact absurd h (hno _)
    · rw [if_neg c1] at h ⊢
      by_cases c2 : c = 59
      · rw [if_pos c2] at h; exact absurd h (hno _)
      · rw [if_neg c2] at h ⊢
        rw [pfx_blank (by decide)]
        by_cases c3 : [35, 124].isPrefixOf T = true
        · rw [if_pos c3] at h; exact absurd h (hno _)
        · rw [if_neg c3] at h ⊢
          by_cases c4 : c = 34
          · rw [if_pos c4] at h ⊢
            rw [quot_blank hne h]; exact h
          · rw [if_neg c4] at h ⊢
            have hm : markO (T ++ 32 :: r) = markO T := mark_blank T r 9 (Nat.le_refl _)
            rw [hm, lab_blank hne]
            cases hmk : markO T with
            | some k => rw [hmk] at h; exact h
            | none =>
              rw [hmk] at h
              cases hlb : labO T with
              | some x => rw [hlb] at h; exact h
              | none =>
                rw [hlb] at h
                have h' : wrdM T = .tok t T.length b := h
                show wrdM (T ++ 32 :: r) = _
                rw [wrd_blank h' rfl, h']
end Go.Proofs.YtjpbbooeihdnfaaDoor
