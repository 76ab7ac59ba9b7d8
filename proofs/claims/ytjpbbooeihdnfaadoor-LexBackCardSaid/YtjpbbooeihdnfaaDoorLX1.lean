/- A token's string is no longer than the text; tokens that were scanned. -/
import Derived.Test.YtjpbbooeihdnfaaDoorLT3
set_option maxRecDepth 20000
set_option linter.unusedSimpArgs false
set_option linter.unusedVariables false
namespace Go.Proofs.YtjpbbooeihdnfaaDoor

theorem unq_len : ∀ (f : Nat) (L : List UInt8) (i : Nat) (l : List UInt8), unq f L i = .ok l → l.length ≤ f
  | 0, L, i, l, h => by injection h with h; subst h; exact Nat.zero_le _
  | f + 1, [], i, l, h => by injection h with h; subst h; exact Nat.zero_le _
  | f + 1, d :: t, i, l, h => by
    rw [unq] at h
    generalize (if d = 92 then esc (d :: t) else (d.toNat, 1)) = r at h
    by_cases hz : r.2 = 0 ∨ 128 ≤ r.1
    · rw [if_pos hz] at h; cases h
    · rw [if_neg hz] at h
      revert h
      cases hu : unq f ((d :: t).drop r.2) (i + r.2) with
      | error j => intro h; cases h
      | ok l' =>
        intro h
        injection h with h
        subst h
        have := unq_len f _ _ _ hu
        rw [List.length_cons]; omega
theorem qsz_le {L : List UInt8} (hL : L ≠ []) : qsz L ≤ L.length := by
  by_cases h0 : qsz L = 0
  · omega
  · obtain ⟨c, A, rfl⟩ := List.exists_cons_of_ne_nil hL
    have := (qGo_app _ A [] 1 (Nat.le_refl _) h0).2
    show qGo A 1 ≤ A.length + 1
    omega
theorem step_slen {L : List UInt8} {t : Tk} {m : Nat} {b : Bool} (h : stepM L = .tok t m b) : t.s.length ≤ L.length := by
  cases hq : L with
  | nil => rw [hq] at h; cases h
  | cons c A =>
    have hne : L ≠ [] := by rw [hq]; simp
    have hno : ∀ n, passM L n ≠ .tok t m b := fun n => by
      rcases passM_is L n with ⟨i, x, hp⟩ | hp <;> rw [hp] <;> intro e <;> cases e
    rw [step_eq hq] at h
    rw [← hq]
    by_cases c1 : isBlank c = true
    · rw [if_pos c1] at h; exact absurd h (hno _)
    · rw [if_neg c1] at h
      by_cases c2 : c = 59
      · rw [if_pos c2] at h; exact absurd h (hno _)
      · rw [if_neg c2] at h
        by_cases c3 : [35, 124].isPrefixOf L = true
        · rw [if_pos c3] at h; exact absurd h (hno _)
        · rw [if_neg c3] at h
          by_cases c4 : c = 34
          · rw [if_pos c4] at h
            unfold quotM at h
            split at h
            · cases h
            · revert h
              cases hu : unq (qsz L) ((L.take (qsz L - 1)).drop 1) 0 with
              | error j => intro h; cases h
              | ok l =>
                intro h
                injection h with h1 h2 h3
                subst h1
                exact Nat.le_trans (unq_len _ _ _ _ hu) (qsz_le hne)
          · rw [if_neg c4] at h
            cases hmk : markO L with
            | some k => rw [hmk] at h; injection h with h1 h2 h3; subst h1; exact Nat.zero_le _
            | none =>
              rw [hmk] at h
              cases hlb : labO L with
              | some x => obtain ⟨k, n, z⟩ := x; rw [hlb] at h; injection h with h1 h2 h3; subst h1; exact Nat.zero_le _
              | none =>
                rw [hlb] at h
                have h' : wrdM L = .tok t m b := h
                unfold wrdM at h'
                split at h'
                · cases h'
                · revert h'
                  cases hh : hiB (L.take (wsz L)) with
                  | some j => intro h'; cases h'
                  | none =>
                    intro h'
                    injection h' with h1 h2 h3
                    subst h1
                    have hle : (L.take (wsz L)).length ≤ L.length := by rw [List.length_take]; omega
                    generalize L.take (wsz L) = W at hle
                    unfold wordM
                    split
                    · exact Nat.zero_le _
                    · split
                      · exact Nat.zero_le _
                      · split
                        · exact Nat.zero_le _
                        · split
                          · exact Nat.zero_le _
                          · split
                            · exact Nat.zero_le _
                            · split
                              · exact Nat.zero_le _
                              · exact hle
theorem scan_slen : ∀ (f : Nat) (L : List UInt8) (a : Nat) (tight : Bool) (l0 l : List (Tk × Nat)) (n : Nat) (e : Int), (∀ x ∈ l0, x.1.s.length ≤ L.length) → scanM L f a tight l0 = (some l, n, e) → ∀ x ∈ l, x.1.s.length ≤ L.length := by
  intro f
  induction f with
  | zero => intro L a tight l0 l n e h0 h; injection h with h1 _; injection h1 with h1; subst h1; exact h0
  | succ f ih =>
    intro L a tight l0 l n e h0 h
    by_cases hlt : a < L.length
    · rw [scanM_succ _ _ _ _ _ hlt] at h
      generalize (!tight || parts (L.getD a 0)) = ap at h
      cases hst : stepM (L.drop a) with
      | err i y =>
        rw [hst] at h
        cases ap with
        | true => rw [s_err] at h; cases h
        | false =>
          by_cases hi : 0 < i
          · rw [s_err1 _ _ _ _ _ _ hi] at h; cases h
          · rw [s_err2 _ _ _ _ _ _ hi] at h; cases h
      | pass m =>
        rw [hst] at h
        cases ap with
        | true => rw [s_pass] at h; exact ih _ _ _ _ _ _ _ h0 h
        | false => rw [s_pass0] at h; cases h
      | tok t m b =>
        rw [hst] at h
        cases ap with
        | true =>
          rw [s_tok] at h
          refine ih _ _ _ _ _ _ _ (fun x hx => ?_) h
          rcases List.mem_append.1 hx with hx | hx
          · exact h0 x hx
          · rw [List.mem_singleton.1 hx]
            have := step_slen hst
            rw [List.length_drop] at this
            show t.s.length ≤ _
            omega
        | false => rw [s_tok0] at h; cases h
    · rw [scan_end _ _ _ _ _ (by omega)] at h; injection h with h1 _; injection h1 with h1; subst h1; exact h0
theorem scanT_slen {L : List UInt8} {l : List (Tk × Nat)} {n : Nat} {e : Int} (h : scanT L = (some l, n, e)) : ∀ x ∈ l, x.1.s.length ≤ 4096 := by
  unfold scanT at h
  split at h
  · cases h
  · intro x hx
    have := scan_slen _ _ _ _ _ _ _ _ (fun x hx => by cases hx) h x hx
    omega
theorem scanT_len {L : List UInt8} {l : List (Tk × Nat)} {n : Nat} {e : Int} (h : scanT L = (some l, n, e)) : l.length ≤ 4096 := by
  have h4 : L.length ≤ 4096 := by
    unfold scanT at h
    split at h
    · cases h
    · omega
  obtain ⟨hris, _⟩ := scanT_ok h
  rcases Nat.eq_zero_or_pos l.length with h0 | h0
  · omega
  · have h1 := hris.at (l.length - 1) (by omega)
    omega
/-- What tokens that were scanned are. -/
theorem scanT_all {L : List UInt8} {l : List (Tk × Nat)} {n : Nat} {e : Int} (h : scanT L = (some l, n, e)) : ∀ x ∈ l, Gd x.1 ∧ x.1.s.length ≤ 5000 :=
  fun x hx => ⟨scanT_gd h x hx, Nat.le_trans (scanT_slen h x hx) (by decide)⟩
/-- Joined and scanned again they are the same. -/
theorem scanT_back {L : List UInt8} {l : List (Tk × Nat)} {n : Nat} {e : Int} (h : scanT L = (some l, n, e)) (hl : (joinM (l.map (·.1))).length ≤ 4096) :
    ∃ l', scanT (joinM (l.map (·.1))) = (some l', (joinM (l.map (·.1))).length, 0) ∧ l'.map (·.1) = l.map (·.1) :=
  scanT_join _ (fun t ht => by obtain ⟨x, hx, rfl⟩ := List.mem_map.1 ht; exact scanT_gd h x hx) hl
end Go.Proofs.YtjpbbooeihdnfaaDoor
