/- takePart: a part that is read. -/
import Derived.Test.YtpdihgmgcamgkaaRByte
import Derived.Test.YtpdihgmgcamgkaaTakeB
set_option linter.unusedSimpArgs false
set_option maxRecDepth 20000
namespace Go.Proofs.Ytpdihgmgcamgkaa
open Go.RowKit Go.Shelf

theorem Fd.len {T E rest : List Nat} {cut : Bool} (h : Fd T E rest cut) : T.length ≤ E.length + rest.length := by
  cases cut with
  | false => rw [(h : T = E ++ rest), List.length_append]; exact Nat.le_refl _
  | true =>
    obtain ⟨X, _, e⟩ := (h : ∃ X, X ≠ [] ∧ E = T ++ X)
    rw [e, List.length_append]; omega
/-- What a reader's block holds. -/
theorem Rd.row {w : World} {g d : Nat} {T : List Nat} {f : Int} (h : Rd w g d T f) : ∃ p c, w.heap[g]? = some (.cells #[.slice p T.length c, .int .i64 f] 94 (0, 0)) ∧ Bys w p T.length T ∧ (∀ a, p = some a → ∃ o, a = ⟨d, o, none⟩) := by
  obtain ⟨p, c, _, hh, hB, _, _, h3, _⟩ := h
  exact ⟨p, c, hh, hB, h3⟩
theorem Rd.ne_int {w : World} {g d K : Nat} {T : List Nat} {f : Int} (h : Rd w g d T f) {x : Int} (hc : w.cell? ⟨K, 0, none⟩ = some (.int .i64 x)) : K ≠ g := by
  rintro rfl
  obtain ⟨p, c, hh, _⟩ := h.row
  rw [cell_of_row _ _ 0 _ _ _ hh] at hc
  simp at hc
theorem Rd.ne_slice {w : World} {g d B K n c : Nat} {T : List Nat} {f x : Int} (h : Rd w g d T f) (hn : 0 < n) (hB : w.cell? ⟨B, 0, none⟩ = some (.slice (some ⟨K, 0, none⟩) n c)) (hK : w.cell? ⟨K, 0, none⟩ = some (.int .i64 x)) : B ≠ g := by
  rintro rfl
  obtain ⟨p, c', hh, hBy, _⟩ := h.row
  rw [cell_of_row _ _ 0 _ _ _ hh] at hB
  simp at hB
  obtain ⟨rfl, hl, _⟩ := hB
  obtain ⟨b, o, e, hcs⟩ := hBy.at (by omega)
  cases e
  have h0 := hcs 0 (by omega)
  rw [Nat.add_zero, hK] at h0
  simp at h0
theorem Rd.ne_func {w : World} {g d b o : Nat} {T : List Nat} {f : Int} {x y z : _} (h : Rd w g d T f) (hc : w.cell? ⟨b, o, none⟩ = some (.func x y z)) : b ≠ g := by
  rintro rfl
  obtain ⟨p, c, hh, _⟩ := h.row
  rw [cell_of_row _ _ o _ _ _ hh] at hc
  match o, hc with
  | 0, hc => simp at hc
  | 1, hc => simp at hc
  | o + 2, hc => simp at hc
theorem Only.cell {g : Nat} {w w' : World} (h : Only g w w') {b o : Nat} {v : Value} (hc : w.cell? ⟨b, o, none⟩ = some v) (hb : b ≠ g) : w'.cell? ⟨b, o, none⟩ = some v :=
  (World.cell?_of_block (w := w) (h.block b (World.block_lt_of_cell? w _ hc) hb)).trans hc
theorem RlV.only {w w' : World} {v : Value} {r : Rl} {g d : Nat} {T : List Nat} {f : Int} (h : RlV w v r) (hR : Rd w g d T f) (ho : Only g w w') : RlV w' v r := by
  cases h with
  | any => exact .any
  | tag => exact .tag
  | ref B K h h0 => exact .ref B K (ho.cell h (hR.ne_slice (by omega) h h0)) (ho.cell h0 (hR.ne_int h0))
  | refNil B K h h0 h1 => exact .refNil B K (ho.cell h (hR.ne_slice (by omega) h h0)) (ho.cell h0 (hR.ne_int h0)) (ho.cell h1 (hR.ne_int h0))
theorem NdV.only {w w' : World} {v : Value} {n : Nd} {g d : Nat} {T : List Nat} {f : Int} (h : NdV w v n) (hR : Rd w g d T f) (ho : Only g w w') : NdV w' v n := by
  obtain ⟨q, k, c, e, hl, hr⟩ := h
  refine ⟨q, k, c, e, hl, fun hn => ?_⟩
  obtain ⟨b, o, e2, hc⟩ := hr hn
  refine ⟨b, o, e2, fun i hi => ?_⟩
  obtain ⟨u, h1, h2⟩ := hc i hi
  have hvf : ∃ f x y, u = .func f x y := by
    generalize hr : n.first.getD i .any = r at h2
    cases h2 <;> exact ⟨_, _, _, rfl⟩
  obtain ⟨f, x, y, rfl⟩ := hvf
  exact ⟨_, ho.cell h1 (hR.ne_func h1), h2.only hR ho⟩
theorem Only.block_ne {g b : Nat} {w w' : World} {o : Obj} (h : Only g w w') (hb : w.heap[b]? = some o) (hne : b ≠ g) : w'.heap[b]? = some o := (h.block b (lt_of_block hb) hne).trans hb
theorem three_set (V : World) (g t : Nat) (a0 a1 a2 b0 b1 b2 : Value) (h : V.heap[g]? = some (.cells #[a0, a1, a2] t (0, 0))) :
    (((V.setCell ⟨g, 0, none⟩ b0).setCell ⟨g, 1, none⟩ b1).setCell ⟨g, 2, none⟩ b2).heap[g]? = some (.cells #[b0, b1, b2] t (0, 0)) :=
  heap_setCell_same _ g 2 _ _ b2 (heap_setCell_same _ g 1 _ _ b1 (heap_setCell_same _ g 0 _ _ b0 h))
/-- What is so of a part that may be. -/
theorem part_ok {r : Rl} {p : Pt} (h : ((r.ap p.k).ok && mayBeM p (r.ap p.k).lo (r.ap p.k).hi) = true) :
    (r.ap p.k).ok = true ∧ mayBeM p (r.ap p.k).lo (r.ap p.k).hi = true ∧ 0 ≤ p.k ∧ p.k ≤ 8 ∧ (p.k ≠ 4 → p.s = ⟨#[]⟩) ∧ (p.k = 4 → p.s.size ≤ 32) ∧ (p.k ≠ 1 → p.k ≠ 2 → p.k ≠ 3 → p.k ≠ 5 → p.k ≠ 8 → p.n = 0) ∧
    (p.k = 1 ∨ p.k = 3 ∨ p.k = 5 ∨ p.k = 8 → 0 ≤ p.n ∧ p.n ≤ (r.ap p.k).hi ∧ (r.ap p.k).hi ≤ 16384) := by
  obtain ⟨k, n, s⟩ := p
  simp only [Bool.and_eq_true] at h ⊢
  obtain ⟨h1, h2⟩ := h
  refine ⟨h1, h2, ?_⟩
  have hn : (numM k).ok = true := by
    cases r with
    | any => exact h1
    | ref => simp only [Rl.ap, Bool.and_eq_true] at h1; exact h1.1
    | refNil => simp only [Rl.ap, Bool.and_eq_true] at h1; exact h1.1
    | tag => simp only [Rl.ap, decide_eq_true_eq] at h1; subst h1; decide
  unfold mayBeM at h2
  simp only [Bool.and_eq_true, decide_eq_true_eq] at h2
  obtain ⟨h3, h4, h5⟩ := h2
  have hs : k ≠ 4 → s = ⟨#[]⟩ := fun hk => by
    rw [if_neg hk] at h3
    exact empty_of (by simpa using h3)
  have hs4 : k = 4 → s.size ≤ 32 := fun hk => by
    rw [if_pos hk] at h3
    exact ((okB_iff _).1 h3).2.1
  have hcase : r = .tag ∨ ((r.ap k).lo = (numM k).lo ∧ (r.ap k).hi = (numM k).hi) := by
    cases r with
    | any => exact .inr ⟨rfl, rfl⟩
    | ref => exact .inr ⟨rfl, rfl⟩
    | refNil => exact .inr ⟨rfl, rfl⟩
    | tag => exact .inl rfl
  rcases hcase with rfl | ⟨e1, e2⟩
  · simp only [Rl.ap, decide_eq_true_eq] at h1
    subst h1
    exact ⟨by omega, by omega, hs, hs4, by omega, by omega⟩
  · rw [e1] at h4
    rw [e2] at h5 ⊢
    unfold numM at hn h4 h5 ⊢
    repeat' split at h4
    all_goals first
      | (exfalso; simp_all; done)
      | (refine ⟨by omega, by omega, hs, hs4, ?_, ?_⟩ <;> simp_all <;> omega)
end Go.Proofs.Ytpdihgmgcamgkaa
