/- Of a whole scan: the places, and what is ahead of a place. -/
import Derived.Test.YtjpbbooeihdnfaaDoorLP2
set_option maxRecDepth 20000
set_option linter.unusedSimpArgs false
set_option linter.unusedVariables false
namespace Go.Proofs.YtjpbbooeihdnfaaDoor

/-- Places that rise, from a on, below n. -/
def Rise : Nat → Nat → List (Tk × Nat) → Prop
  | _, _, [] => True
  | a, n, (_, p) :: l => a ≤ p ∧ p < n ∧ Rise (p + 1) n l
theorem Rise.mono {a b n : Nat} (h : b ≤ a) : ∀ {l : List (Tk × Nat)}, Rise a n l → Rise b n l
  | [], _ => trivial
  | (_, p) :: l, ⟨h1, h2, h3⟩ => ⟨by omega, h2, h3⟩
theorem Rise.at {n : Nat} : ∀ {l : List (Tk × Nat)} {a : Nat}, Rise a n l → ∀ i, i < l.length → a + i ≤ (l.getD i (⟨0, 0, []⟩, 0)).2 ∧ (l.getD i (⟨0, 0, []⟩, 0)).2 < n ∧ ∀ j, j < i → (l.getD j (⟨0, 0, []⟩, 0)).2 < (l.getD i (⟨0, 0, []⟩, 0)).2
  | [], a, _, i, hi => by simp at hi
  | (t, p) :: l, a, ⟨h1, h2, h3⟩, 0, hi => ⟨by simpa using h1, by simpa using h2, fun j hj => by omega⟩
  | (t, p) :: l, a, ⟨h1, h2, h3⟩, i + 1, hi => by
    obtain ⟨k1, k2, k3⟩ := Rise.at h3 i (by simpa using hi)
    simp only [List.getD_cons_succ]
    refine ⟨by omega, k2, fun j hj => ?_⟩
    cases j with
    | zero => simp only [List.getD_cons_zero]; omega
    | succ j => simp only [List.getD_cons_succ]; exact k3 j (by omega)
/-- What is known of a scan from a place on. -/
structure Scd (L : List UInt8) (f a : Nat) (tight : Bool) (l0 l : List (Tk × Nat)) (n : Nat) : Prop where
  len : n = L.length
  ris : ∃ l1, l = l0 ++ l1 ∧ Rise a L.length l1 ∧ ∀ k, k < l1.length → ∀ f', (l1.getD k (⟨0, 0, []⟩, 0)).2 - a < f' →
    scanM (L.take (l1.getD k (⟨0, 0, []⟩, 0)).2) f' a tight l0 = (some (l0 ++ l1.take k), (l1.getD k (⟨0, 0, []⟩, 0)).2, 0)
theorem scan_end (L : List UInt8) (f a : Nat) (tight : Bool) (l : List (Tk × Nat)) (h : L.length ≤ a) : scanM L f a tight l = (some l, a, 0) := by
  cases f with
  | zero => rfl
  | succ f => rw [scanM, if_pos h]
theorem scan_cd : ∀ (f : Nat) (L : List UInt8) (a : Nat) (tight : Bool) (l0 l : List (Tk × Nat)) (n : Nat) (e : Int), a ≤ L.length → L.length - a < f → scanM L f a tight l0 = (some l, n, e) → Scd L f a tight l0 l n := by
  intro f
  induction f with
  | zero => intro L a tight l0 l n e _ h; omega
  | succ f ih =>
    intro L a tight l0 l n e ha hf h
    by_cases hlt : a < L.length
    · rw [scanM_succ _ _ _ _ _ hlt] at h
      have hne : L.drop a ≠ [] := fun e => by
        have := congrArg List.length e
        rw [List.length_drop] at this
        simp at this; omega
      obtain ⟨sp1, sp2, sp3⟩ := step_pos hne
      rw [List.length_drop] at sp1 sp2
      obtain ⟨st, hst⟩ : ∃ st, stepM (L.drop a) = st := ⟨_, rfl⟩
      obtain ⟨ap, hap⟩ : ∃ ap, (!tight || parts (L.getD a 0)) = ap := ⟨_, rfl⟩
      rw [hst, hap] at h
      rw [hst] at sp1 sp2
      -- a cut text, one step on
      have hcut : ∀ p f', a < p → p ≤ L.length → stN st ≠ 0 → a + stN st ≤ p → scanM (L.take p) (f' + 1) a tight l0 = scanS (L.take p) f' a l0 ap st := fun p f' h1 h2 h3 h4 => by
        rw [scanM_succ _ _ _ _ _ (by rw [List.length_take]; omega), List.drop_take, step_take hst h3 (by omega), getD_take h1, hap]
      cases st with
      | err i x =>
        cases ap with
        | true => rw [s_err] at h; cases h
        | false =>
          by_cases hi : 0 < i
          · rw [s_err1 _ _ _ _ _ _ hi] at h; cases h
          · rw [s_err2 _ _ _ _ _ _ hi] at h; cases h
      | pass m =>
        obtain ⟨hm0, hmL⟩ := sp1 m rfl
        cases ap with
        | false => rw [s_pass0] at h; cases h
        | true =>
          rw [s_pass] at h
          obtain ⟨e1, l1, e2, e3, e4⟩ := ih L (a + m) false l0 l n e (by omega) (by omega) h
          refine ⟨e1, l1, e2, e3.mono (by omega), fun k hk f' hf' => ?_⟩
          obtain ⟨r1, r2, r3⟩ := e3.at k hk
          cases f' with
          | zero => omega
          | succ f' =>
            rw [hcut _ f' (by omega) (by omega) (by show m ≠ 0; omega) (by show a + m ≤ _; omega), s_pass]
            exact e4 k hk f' (by omega)
      | tok t m b =>
        obtain ⟨hm0, hmL⟩ := sp2 t m b rfl
        cases ap with
        | false => rw [s_tok0] at h; cases h
        | true =>
          rw [s_tok] at h
          obtain ⟨e1, l1, e2, e3, e4⟩ := ih L (a + m) b (l0 ++ [(t, a)]) l n e (by omega) (by omega) h
          refine ⟨e1, (t, a) :: l1, by rw [e2, List.append_assoc]; rfl, ⟨Nat.le_refl _, hlt, e3.mono (by omega)⟩, fun k hk f' hf' => ?_⟩
          cases k with
          | zero =>
            simp only [List.getD_cons_zero, List.take_zero, List.append_nil]
            exact scan_end _ _ _ _ _ (by rw [List.length_take]; omega)
          | succ k =>
            simp only [List.getD_cons_succ] at hf' ⊢
            obtain ⟨r1, r2, r3⟩ := e3.at k (by simpa using hk)
            cases f' with
            | zero => omega
            | succ f' =>
              rw [hcut _ f' (by omega) (by omega) (by show m ≠ 0; omega) (by show a + m ≤ _; omega), s_tok, e4 k (by simpa using hk) f' (by omega), List.append_assoc]
              rfl
    · have hae : a = L.length := by omega
      rw [scan_end _ _ _ _ _ (by omega)] at h
      injection h with h1 h2
      injection h1 with h1
      injection h2 with h2 h3
      exact ⟨by omega, [], by rw [h1, List.append_nil], trivial, fun k hk => by simp at hk⟩
/-- Of a text that is scanned: the places rise and lie in it; cut at a token's place it has just the tokens ahead. -/
theorem scanT_ok {L : List UInt8} {l : List (Tk × Nat)} {n : Nat} {e : Int} (h : scanT L = (some l, n, e)) : Rise 0 L.length l ∧ ∀ k, k < l.length → scanT (L.take (l.getD k (⟨0, 0, []⟩, 0)).2) = (some (l.take k), (l.getD k (⟨0, 0, []⟩, 0)).2, 0) := by
  unfold scanT at h
  by_cases h4 : 4096 < L.length
  · rw [if_pos h4] at h; cases h
  · rw [if_neg h4] at h
    obtain ⟨e1, l1, e2, e3, e4⟩ := scan_cd _ L 0 false [] l n e (Nat.zero_le _) (by omega) h
    rw [List.nil_append] at e2
    subst e2
    refine ⟨e3, fun k hk => ?_⟩
    obtain ⟨r1, r2, r3⟩ := e3.at k hk
    unfold scanT
    have hl : (L.take (l.getD k (⟨0, 0, []⟩, 0)).2).length = (l.getD k (⟨0, 0, []⟩, 0)).2 := by rw [List.length_take]; omega
    rw [hl, if_neg (by omega)]
    have := e4 k hk ((l.getD k (⟨0, 0, []⟩, 0)).2 + 1) (by omega)
    rw [List.nil_append] at this
    exact this
end Go.Proofs.YtjpbbooeihdnfaaDoor
