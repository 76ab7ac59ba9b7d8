/- Rows of a call's own. -/
import Derived.Test.YtekmboolfjicbaaHMdl
import Derived.Laws.Rows
import Derived.WalkSmall
namespace Go.Proofs.Ytekmboolfjicbaa
open Go.RowKit

theorem own_head {w : World} {base E m n : Nat} {v : Value} {xs : List Value} {g : Nat} (h : w.ownsRow base E m v n xs) (hg : v.ownBlock = some g) : ∃ cur, w.heap[g]? = some (.cells cur E (0, 0)) := by
  rcases h.2 with ⟨rfl, _⟩ | ⟨g', cap, cur, rfl, _, hh, _⟩
  · simp [Value.ownBlock] at hg
  · simp [Value.ownBlock] at hg
    subst hg
    exact ⟨cur, hh⟩
theorem own_other {w w' : World} {base E m n : Nat} {v : Value} {xs : List Value} (h : w.ownsRow base E m v n xs) (hb : ∀ g, v.ownBlock = some g → w'.heap[g]? = w.heap[g]?) : w'.ownsRow base E m v n xs := by
  refine ⟨h.1, ?_⟩
  rcases h.2 with h2 | ⟨g, cap, cur, rfl, hb2, hg, hr⟩
  · exact .inl h2
  · exact .inr ⟨g, cap, cur, rfl, hb2, (hb g rfl).trans hg, hr⟩
theorem base0 {w : World} {base E m n : Nat} {v : Value} {xs : List Value} (h : w.ownsRow base E m v n xs) : w.ownsRow 0 E m v n xs := by
  refine ⟨h.1, ?_⟩
  rcases h.2 with h2 | ⟨g, cap, cur, e, hb, hg, hr⟩
  · exact .inl h2
  · exact .inr ⟨g, cap, cur, e, Nat.zero_le _, hg, hr⟩
theorem own_form {w : World} {base E m n : Nat} {v : Value} {xs : List Value} (h : w.ownsRow base E m v n xs) : ∃ (q : Option Addr) (c : Nat), v = .slice q n c := by
  rcases h.2 with ⟨rfl, hx⟩ | ⟨g, cap, cur, e, _⟩
  · have := h.1
    subst hx
    exact ⟨none, 0, rfl⟩
  · exact ⟨_, _, e⟩
/-- A row's form where it has an element. -/
theorem own_some {w : World} {base E m n : Nat} {v : Value} {xs : List Value} (h : w.ownsRow base E m v n xs) (hn : 0 < n) : ∃ (g c : Nat), v = .slice (some ⟨g, 0, none⟩) n c := by
  rcases h.2 with ⟨rfl, hx⟩ | ⟨g, cap, cur, e, _⟩
  · exact absurd hx (by omega)
  · exact ⟨g, cap, e⟩
theorem own_cap {w : World} {base E m n b c : Nat} {xs : List Value} (h : w.ownsRow base E m (.slice (some ⟨b, 0, none⟩) n c) n xs) : n ≤ c := by
  rcases h.2 with ⟨e, _⟩ | ⟨g', cap, cur, e, _, _, h1, _⟩
  · cases e
  · cases e; exact h1
theorem own_lt {w : World} {base E m n b : Nat} {v : Value} {xs : List Value} (h : w.ownsRow base E m v n xs) (hb : v.ownBlock = some b) : b < w.heap.size := by
  obtain ⟨cur, hc⟩ := own_head h hb; exact lt_of_block hc
theorem own_ge {w : World} {base E m n b : Nat} {v : Value} {xs : List Value} (h : w.ownsRow base E m v n xs) (hb : v.ownBlock = some b) : base ≤ b := by
  rcases h.2 with ⟨rfl, _⟩ | ⟨g', cap, cur, rfl, hb2, hh, _⟩
  · simp [Value.ownBlock] at hb
  · simp [Value.ownBlock] at hb; omega
theorem ne_of_ty {w : World} {a b : Nat} {cs ds : Array Value} {t u : Nat} {fr fs : Nat × Nat} (h : w.heap[a]? = some (.cells cs t fr)) (k : w.heap[b]? = some (.cells ds u fs)) (ht : t ≠ u) : a ≠ b := by
  rintro rfl
  rw [h] at k
  cases k
  exact ht rfl
end Go.Proofs.Ytekmboolfjicbaa
