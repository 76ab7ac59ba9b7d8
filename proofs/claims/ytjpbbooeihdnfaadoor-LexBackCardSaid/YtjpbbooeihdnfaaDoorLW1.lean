/- Rows of tokens are read; the chapter's example. -/
import Derived.Test.YtjpbbooeihdnfaaDoorLP3
set_option maxRecDepth 20000
set_option linter.unusedSimpArgs false
set_option linter.unusedVariables false
namespace Go.Proofs.YtjpbbooeihdnfaaDoor
open Go.RowKit

abbrev zTA : Tk × Nat := (⟨0, 0, []⟩, 0)
theorem tkL_get : ∀ (l : List (Tk × Nat)) (i : Nat), i < l.length → (tkL l)[i * 4]? = some (.int .i64 ((l.getD i zTA).1.k : Int)) ∧ (tkL l)[i * 4 + 1]? = some (.int .i64 (l.getD i zTA).1.n) ∧ (tkL l)[i * 4 + 2]? = some (.string ⟨(l.getD i zTA).1.s.toArray⟩) ∧ (tkL l)[i * 4 + 3]? = some (.int .i64 ((l.getD i zTA).2 : Int))
  | [], i, h => by simp at h
  | (t, a) :: l, 0, h => ⟨rfl, rfl, rfl, rfl⟩
  | (t, a) :: l, i + 1, h => by
    have ih := tkL_get l i (by simpa using h)
    have e : ∀ j, (tkL ((t, a) :: l))[(i + 1) * 4 + j]? = (tkL l)[i * 4 + j]? := fun j => by
      show ((tkC t (a : Int)).toList ++ tkL l)[(i + 1) * 4 + j]? = _
      rw [List.getElem?_append_right (by simp [tkC]; omega)]
      congr 1
      simp [tkC]; omega
    have e0 := e 0
    rw [Nat.add_zero, Nat.add_zero] at e0
    rw [e0, e 1, e 2, e 3]
    exact ih
/-- A row of tokens that is told: its cells. -/
structure TkR (w : World) (v : Value) (l : List (Tk × Nat)) (g cap : Nat) : Prop where
  eq : v = .slice (some ⟨g, 0, none⟩) l.length cap
  k : ∀ i, i < l.length → w.cell? ⟨g, i * 4, none⟩ = some (.int .i64 ((l.getD i zTA).1.k : Int))
  n : ∀ i, i < l.length → w.cell? ⟨g, i * 4 + 1, none⟩ = some (.int .i64 (l.getD i zTA).1.n)
  s : ∀ i, i < l.length → w.cell? ⟨g, i * 4 + 2, none⟩ = some (.string ⟨(l.getD i zTA).1.s.toArray⟩)
  a : ∀ i, i < l.length → w.cell? ⟨g, i * 4 + 3, none⟩ = some (.int .i64 ((l.getD i zTA).2 : Int))
theorem TkR.of {w : World} {B : Nat} {v : Value} {l : List (Tk × Nat)} (h : w.ownsRow B 30 4 v l.length (tkL l)) (hl : l ≠ []) : ∃ g cap, TkR w v l g cap := by
  rcases h.2 with ⟨_, h0⟩ | ⟨g, cap, cur, hv, hB, hg, hr⟩
  · exact absurd (List.eq_nil_of_length_eq_zero h0) hl
  · subst hv
    have hc : ∀ k, k < l.length * 4 → w.cell? ⟨g, k, none⟩ = (tkL l)[k]? := fun k hk => h.cellAt k hk
    refine ⟨g, cap, rfl, fun i hi => ?_, fun i hi => ?_, fun i hi => ?_, fun i hi => ?_⟩
    · rw [hc _ (by omega)]; exact (tkL_get l i hi).1
    · rw [hc _ (by omega)]; exact (tkL_get l i hi).2.1
    · rw [hc _ (by omega)]; exact (tkL_get l i hi).2.2.1
    · rw [hc _ (by omega)]; exact (tkL_get l i hi).2.2.2
theorem TkR.below {w w' : World} {v : Value} {l : List (Tk × Nat)} {g cap : Nat} (h : TkR w v l g cap) (hb : Below w.heap.size w w') : TkR w' v l g cap := by
  have hc : ∀ (a : Addr) (x : Value), w.cell? a = some x → w'.cell? a = some x := fun a x hx => (hb.cell (World.block_lt_of_cell? w a hx)).trans hx
  exact ⟨h.eq, fun i hi => hc _ _ (h.k i hi), fun i hi => hc _ _ (h.n i hi), fun i hi => hc _ _ (h.s i hi), fun i hi => hc _ _ (h.a i hi)⟩
def exL : List UInt8 := [40, 99, 97, 114, 32, 39, 40, 49, 32, 46, 32, 35, 92, 97, 41, 41]
def exT : List (Tk × Nat) := [(⟨0, 0, []⟩, 0), (⟨14, 0, [99, 97, 114]⟩, 1), (⟨4, 0, []⟩, 5), (⟨0, 0, []⟩, 6), (⟨10, 1, []⟩, 7), (⟨9, 0, []⟩, 9), (⟨12, 97, []⟩, 11), (⟨1, 0, []⟩, 14), (⟨1, 0, []⟩, 15)]
theorem ex_scan : scanT exL = (some exT, 16, 0) := by decide +kernel
set_option maxHeartbeats 1600000 in
theorem lives_any (w : World) (hE : Env w) : Calls Tryd.prog 5 #[] w fun e w' => e = .returned (.bool true) ∧ Below w.heap.size w w' := by
  have hs := scan_any ⟨#[40, 99, 97, 114, 32, 39, 40, 49, 32, 46, 32, 35, 92, 97, 41, 41]⟩ w hE (by decide)
  rw [show tl ⟨#[40, 99, 97, 114, 32, 39, 40, 49, 32, 46, 32, 35, 92, 97, 41, 41]⟩ = exL from rfl, ex_scan] at hs
  have HS : Hid (Calls Tryd.prog 6 #[.string ⟨#[40, 99, 97, 114, 32, 39, 40, 49, 32, 46, 32, 35, 92, 97, 41, 41]⟩] w fun e w' => ∃ g cap, e = .returned (.tuple #[.slice (some ⟨g, 0, none⟩) 9 cap, .int .i64 16, .int .i64 0]) ∧ w'.cell? ⟨g, 24, none⟩ = some (.int .i64 12) ∧ w'.cell? ⟨g, 25, none⟩ = some (.int .i64 97) ∧ Hid (Below w.heap.size w w')) := Lib.hid (hs.mono fun e w' h => by
    obtain ⟨hb, v, he, ho⟩ := h
    obtain ⟨g, cap, ht⟩ := TkR.of ho (by decide)
    exact ⟨g, cap, by rw [he, ht.eq]; rfl, ht.k 6 (by decide), ht.n 6 (by decide), hb⟩)
  clear hs
  go_enter Tryd.func5, Tryd.ntmps5
  go_wp2_with (go_at_call 6; refine HS.out.mono ?_; rintro e w2 ⟨g, cap, rfl, k0, k1, HB⟩)
  go_ret
  exact ⟨rfl, HB.out⟩
end Go.Proofs.YtjpbbooeihdnfaaDoor
