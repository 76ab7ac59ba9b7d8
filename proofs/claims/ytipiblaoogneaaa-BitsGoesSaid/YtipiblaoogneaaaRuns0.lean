/- The numbers of a set, rising, and its runs. -/
import Derived.Test.YtipiblaoogneaaaClone
namespace Go.Proofs.Ytipiblaoogneaaa

/-- A number from 0 to 2048. -/
def sp (j : Nat) : Fin 2049 := ⟨j % 2049, Nat.mod_lt _ (by decide)⟩
theorem sp_val {j : Nat} (h : j ≤ 2048) : (sp j).val = j := Nat.mod_eq_of_lt (by omega)
abbrev Run := Fin 2049 × Fin 2049
theorem endF_spec {f : Nat → Bool} {n j : Nat} (hs : Sub n f) (hj : j < n) (hf : f j = true) : j < endF f n j ∧ endF f n j ≤ n ∧ (∀ x, j ≤ x → x < endF f n j → f x = true) ∧ f (endF f n j) = false := by
  unfold endF
  rcases nxt_spec (gap f) n j with ⟨e, h0, h1, h2, h3, h4⟩ | ⟨h0, h4⟩
  · rw [h0]
    unfold gap at h3 h4
    have hne : e ≠ j := fun he => by rw [he, hf] at h3; cases h3
    exact ⟨by show j < e; omega, by show e ≤ n; omega, fun x hx hy => by simpa using h4 x hx hy, by simpa using h3⟩
  · rw [h0]
    unfold gap at h4
    exact ⟨hj, Nat.le_refl _, fun x hx hy => by simpa using h4 x hx hy, hs n (Nat.le_refl _)⟩
/-- The runs from a place on, so many at most. -/
def runsF (f : Nat → Bool) (n : Nat) : Nat → Nat → List Run
  | 0, _ => []
  | k + 1, s => match nxt f n s with
    | none => []
    | some j => (sp j, sp (endF f n j - j)) :: runsF f n k (endF f n j)
/-- All runs. -/
def runs (f : Nat → Bool) (n : Nat) : List Run := runsF f n (n + 1) 0
theorem runsF_none {f : Nat → Bool} {n k s : Nat} (h : nxt f n s = none) : runsF f n k s = [] := by
  cases k with
  | zero => rfl
  | succ k => show (match nxt f n s with | none => [] | some j => _) = _; rw [h]
theorem runsF_some {f : Nat → Bool} {n k s j : Nat} (h : nxt f n s = some j) : runsF f n (k + 1) s = (sp j, sp (endF f n j - j)) :: runsF f n k (endF f n j) := by
  show (match nxt f n s with | none => [] | some j => _) = _; rw [h]
/-- How many numbers runs have. -/
def total (l : List Run) : Nat := l.foldl (fun t x => t + x.2.val) 0
theorem foldl_add (l : List Run) (a : Nat) : l.foldl (fun t x => t + x.2.val) a = a + l.foldl (fun t x => t + x.2.val) 0 := by
  induction l generalizing a with
  | nil => rfl
  | cons x l ih => rw [List.foldl_cons, List.foldl_cons, ih, ih (0 + x.2.val)]; omega
theorem total_snoc (l : List Run) (x : Run) : total (l ++ [x]) = total l + x.2.val := by unfold total; rw [List.foldl_append]; rfl
theorem total_cons (x : Run) (l : List Run) : total (x :: l) = x.2.val + total l := by unfold total; rw [List.foldl_cons, foldl_add]; omega
theorem total_le (l : List Run) : total l ≤ 2048 * l.length := by
  induction l with
  | nil => exact Nat.le_refl _
  | cons x l ih => rw [total_cons, List.length_cons]; have := x.2.isLt; omega
theorem runs_total {f : Nat → Bool} {n : Nat} (hs : Sub n f) (hn : n ≤ 2048) (k s : Nat) (hk : n < s + k) (hsn : s ≤ n) : cnt f s + total (runsF f n k s) = cnt f n := by
  induction k generalizing s with
  | zero => omega
  | succ k ih =>
    rcases nxt_spec f n s with ⟨j, h0, h1, h2, h3, h4⟩ | ⟨h0, h4⟩
    · obtain ⟨e1, e2, e3, e4⟩ := endF_spec hs h2 h3
      rw [runsF_some h0, total_cons]
      show cnt f s + ((sp (endF f n j - j)).val + _) = _
      rw [sp_val (by omega), ← ih (endF f n j) (by omega) e2, cnt_all (Nat.le_of_lt e1) e3, cnt_skip h1 h4]
      omega
    · rw [runsF_none h0, ← cnt_skip (i := s) (j := n) hsn (fun x hx hy => h4 x hx hy)]; rfl
/-- The numbers of a set below a place. -/
def mems (f : Nat → Bool) (s : Nat) : List Nat := (List.range s).filter f
theorem mems_skip {f : Nat → Bool} {i j : Nat} (hij : i ≤ j) (h : ∀ x, i ≤ x → x < j → f x = false) : mems f j = mems f i := by
  induction j with
  | zero => have : i = 0 := by omega
            subst this; rfl
  | succ j ih =>
    by_cases e : i = j + 1
    · subst e; rfl
    · unfold mems
      rw [List.range_succ, List.filter_append]
      have hj := h j (by omega) (by omega)
      rw [show List.filter f [j] = [] by simp [hj], List.append_nil]
      exact ih (by omega) (fun x hx hy => h x hx (by omega))
theorem mems_hit {f : Nat → Bool} {j : Nat} (h : f j = true) : mems f (j + 1) = mems f j ++ [j] := by
  unfold mems
  rw [List.range_succ, List.filter_append, show List.filter f [j] = [j] by simp [h]]
theorem mems_len (f : Nat → Bool) (s : Nat) : (mems f s).length ≤ s := by
  unfold mems
  have := List.length_filter_le f (List.range s)
  simpa using this
theorem mems_cnt (f : Nat → Bool) (s : Nat) : (mems f s).length = cnt f s := by
  induction s with
  | zero => rfl
  | succ s ih =>
    cases h : f s with
    | true => rw [mems_hit h, List.length_append, ih]; show _ = cnt f s + (f s).toNat; rw [h]; rfl
    | false => rw [mems_skip (Nat.le_succ s) (fun x hx hy => by have : x = s := by omega
                                                                subst this; exact h), ih]; show _ = cnt f s + (f s).toNat; rw [h]; rfl
end Go.Proofs.Ytipiblaoogneaaa
