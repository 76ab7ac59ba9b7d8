/- SweepMore: counting. -/
import Derived.Test.YtekmboolfjicbaaLIn14
import Derived.Laws.AppendOwnNone
set_option maxRecDepth 20000
set_option linter.unusedSimpArgs false
set_option linter.unusedVariables false
namespace Go.Proofs.Ytekmboolfjicbaa
open Go.RowKit

/-- Slices of values one behind the other. -/
theorem vls_cells {w : World} {q : Option Addr} {n : Nat} {l : List (Int × Int)} (h : Vls w q n l) (hn : 0 < n) : ∃ ad, q = some ad ∧ ∀ j v, (flatV l)[j]? = some v → w.cell? (ad.add j) = some v := h.cells hn
/-- How many of a list lie in two others. -/
def bothN (A B : List (Int × Int)) (l : List (Int × Int)) : Nat := (l.filter fun v => hasK A v && hasK B v).length
theorem bothN_snoc (A B l : List (Int × Int)) (v : Int × Int) : bothN A B (l ++ [v]) = bothN A B l + (if (hasK A v && hasK B v) = true then 1 else 0) := by
  unfold bothN
  rw [List.filter_append, List.length_append]
  cases h : (hasK A v && hasK B v) <;> simp [h]
theorem bothN_le (A B l : List (Int × Int)) : bothN A B l ≤ l.length := List.length_filter_le ..
theorem filter_split (p : Int × Int → Bool) (l : List (Int × Int)) : (l.filter p).length + (l.filter fun v => !p v).length = l.length := by
  induction l with
  | nil => rfl
  | cons x l ih => cases h : p x <;> simp [h] <;> omega
theorem filter_iff {A L : List (Int × Int)} (hA : A.Nodup) (hL : L.Nodup) (h : ∀ v, v ∈ A → v ∈ L) : (L.filter fun v => hasK A v).length = A.length := by
  have h1 := nodup_len (L.filter fun v => hasK A v) A (hL.filter _) fun x hx => hasK_iff.1 (List.mem_filter.1 hx).2
  have h2 := nodup_len A (L.filter fun v => hasK A v) hA fun x hx => List.mem_filter.2 ⟨h x hx, hasK_iff.2 hx⟩
  omega
/-- What both reach together. -/
theorem both_len {A B L : List (Int × Int)} (hA : A.Nodup) (hB : B.Nodup) (hL : L.Nodup) (h : ∀ v, v ∈ L ↔ v ∈ A ∨ v ∈ B) : L.length + bothN A B L = A.length + B.length := by
  have a := filter_iff hA hL fun v hv => (h v).2 (.inl hv)
  have b := filter_iff hB hL fun v hv => (h v).2 (.inr hv)
  have e : ∀ M : List (Int × Int), (∀ v ∈ M, v ∈ A ∨ v ∈ B) → M.length + bothN A B M = (M.filter fun v => hasK A v).length + (M.filter fun v => hasK B v).length := by
    intro M hM
    unfold bothN
    induction M with
    | nil => rfl
    | cons x M ih =>
      have ih := ih fun v hv => hM v (by simp [hv])
      have hx := hM x (by simp)
      cases ha : hasK A x <;> cases hb : hasK B x
      · rcases hx with hx | hx
        · rw [hasK_yes hx] at ha; cases ha
        · rw [hasK_yes hx] at hb; cases hb
      all_goals (simp [ha, hb]; omega)
  rw [e L fun v hv => (h v).1 hv, a, b]
end Go.Proofs.Ytekmboolfjicbaa
