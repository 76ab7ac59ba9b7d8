/- Collect. -/
import Derived.Test.YtekmboolfjicbaaSCol
set_option maxRecDepth 20000
set_option linter.unusedSimpArgs false
set_option linter.unusedVariables false
namespace Go.Proofs.Ytekmboolfjicbaa
open Go.RowKit Go.Shelf
attribute [local go_sem] Oper.semAt_some

/-- A memory amid a collection. -/
structure ColJ (w W : World) (gh : Nat) (F : Nat → Prop) (m : Hm) (T refs : List (Int × Int)) (j B0 B5 B6 BA g : Nat) (vt mv vf va : Value) (fs : List Fct) : Prop where
  hep : ∃ F', Hep W gh F' (colM T m (refs.take j)) ∧ ∀ k, F' k → F k
  gra : Gra W g vt mv vf T fs
  b0 : W.heap[B0]? = some (.cells #[.pointer (some ⟨gh, 0, none⟩)] 26 (0, 0))
  b5 : W.heap[B5]? = some (.cells #[.pointer (some ⟨g, 0, none⟩)] 84 (0, 0))
  b6 : W.heap[B6]? = some (.cells #[.int .i64 (colN T (refs.take j) : Int)] 3 (0, 0))
  ba : W.heap[BA]? = some (.cells #[va] 23 (0, 0))
  row : W.ownsRow 0 36 2 va refs.length (flatV refs)
  fr : Chp F F w W
  n : (∀ k, footG g vt mv vf k → w.heap.size ≤ k) ∧ (∀ k, va.ownBlock = some k → w.heap.size ≤ k) ∧ w.heap.size ≤ B0 ∧ w.heap.size ≤ B5 ∧ w.heap.size ≤ B6 ∧ w.heap.size ≤ BA
section
variable {w W W2 : World} {gh : Nat} {F : Nat → Prop} {m : Hm} {T refs : List (Int × Int)} {j B0 B5 B6 BA g : Nat} {vt mv vf va : Value} {fs : List Fct}
theorem ColJ.below (h : ColJ w W gh F m T refs j B0 B5 B6 BA g vt mv vf va fs) (hb : Below W.heap.size W W2) : ColJ w W2 gh F m T refs j B0 B5 B6 BA g vt mv vf va fs := by
  obtain ⟨F', h1, h2⟩ := h.hep
  exact ⟨⟨F', h1.below hb, h2⟩, h.gra.below hb, (hb.block _ (lt_of_block h.b0)).trans h.b0, (hb.block _ (lt_of_block h.b5)).trans h.b5, (hb.block _ (lt_of_block h.b6)).trans h.b6, (hb.block _ (lt_of_block h.ba)).trans h.ba, own_below h.row hb, h.fr.trans (Chp.of_below hb), h.n⟩
theorem ColJ.own {B : Nat} (hF : ∀ k, F k → k < B) (hM : ∀ mb, mv = .map (some mb) → mb < B) (hw : w.heap.size ≤ B) : OwnFrom B (fun (j : Nat) W => ColJ w W gh F m T refs j B0 B5 B6 BA g vt mv vf va fs) := by
  rintro j W W' row h hg hr
  have hc : ∀ k (cs : Array Value) ty, W.heap[k]? = some (Obj.cells cs ty (0, 0)) → W'.heap[k]? = W.heap[k]? := fun k cs ty hk => hg.block k (lt_of_block hk) (fun e => by
    obtain ⟨_, o, ho, hcell⟩ := hr k e.symm
    rw [hk] at ho; cases ho; cases hcell)
  have hlow : ∀ k, k < B → k < W.heap.size → W'.heap[k]? = W.heap[k]? := fun k hk hs => hg.block k hs (fun e => by
    have := (hr k e.symm).1; omega)
  obtain ⟨F', h1, h2⟩ := h.hep
  have hz := h.fr.size
  refine ⟨⟨F', h1.keep fun k hk => hlow k (hF k (h2 k hk)) (h1.lt k hk), h2⟩, h.gra.keep fun b hb => ?_, (hc _ _ _ h.b0).trans h.b0, (hc _ _ _ h.b5).trans h.b5, (hc _ _ _ h.b6).trans h.b6, (hc _ _ _ h.ba).trans h.ba, own_other h.row fun b e => ?_, ?_, h.n⟩
  · rcases hb with (rfl | e | e) | e
    · exact hc _ _ _ h.gra.r.hd
    · obtain ⟨cur, hcur⟩ := own_head h.gra.r.row e
      exact hc _ _ _ hcur
    · exact hlow b (hM b e) (h.gra.lt b (.inl (.inr (.inr e))))
    · obtain ⟨cur, hcur⟩ := own_head h.gra.f e
      exact hc _ _ _ hcur
  · obtain ⟨cur, hcur⟩ := own_head h.row e
    exact hc _ _ _ hcur
  · exact ⟨hg.os.trans h.fr.os, hg.tape.trans h.fr.tape, hg.output.trans h.fr.output, Nat.le_trans hz hg.size, fun k hk hf => (hlow k (by omega) (by omega)).trans (h.fr.block k hk hf), h.fr.fresh⟩
/-- A value that is reached. -/
theorem ColJ.kept (h : ColJ w W gh F m T refs j B0 B5 B6 BA g vt mv vf va fs) {v : Int × Int} (hv : refs[j]? = some v) (hT : hasK T v = true) : ColJ w W gh F m T refs (j + 1) B0 B5 B6 BA g vt mv vf va fs := by
  have e1 : colM T m (refs.take (j + 1)) = colM T m (refs.take j) := by rw [take_snoc hv, colM_snoc]; unfold colV; rw [if_pos hT]
  have e2 : colN T (refs.take (j + 1)) = colN T (refs.take j) := by rw [take_snoc hv, colN_snoc, if_pos hT]; rfl
  exact ⟨by rw [e1]; exact h.hep, h.gra, h.b0, h.b5, by rw [e2]; exact h.b6, h.ba, h.row, h.fr, h.n⟩
/-- One that isn't, dropped. -/
theorem ColJ.drop (h : ColJ w W gh F m T refs j B0 B5 B6 BA g vt mv vf va fs) (hF : ∀ k, F k → k < w.heap.size) {v : Int × Int} (hv : refs[j]? = some v) (hT : hasK T v = false) {F' : Nat → Prop} (hF' : ∀ k, F' k → F k) (hD : WentD F' gh (dropM (colM T m (refs.take j)) v) W W2) (h56 : B6 ≠ B0 ∧ B6 ≠ B5 ∧ B6 ≠ BA) :
    W2.heap[B0]? = some (.cells #[.pointer (some ⟨gh, 0, none⟩)] 26 (0, 0)) ∧ W2.cell? ⟨B6, 0, none⟩ = some (.int .i64 (colN T (refs.take j) : Int)) ∧ W2.frozen? ⟨B6, 0, none⟩ = false ∧ ColJ w (W2.setCell ⟨B6, 0, none⟩ (.int .i64 ((colN T (refs.take j) : Int) + 1))) gh F m T refs (j + 1) B0 B5 B6 BA g vt mv vf va fs ∧ (∀ B (k : Nat) (o : Obj), w.heap.size ≤ B → B ≤ k → W.heap[k]? = some o → o.isCells = false → (W2.setCell ⟨B6, 0, none⟩ (.int .i64 ((colN T (refs.take j) : Int) + 1))).heap[k]? = some o) ∧ W.heap.size ≤ (W2.setCell ⟨B6, 0, none⟩ (.int .i64 ((colN T (refs.take j) : Int) + 1))).heap.size := by
  have e1 : colM T m (refs.take (j + 1)) = dropM (colM T m (refs.take j)) v := by rw [take_snoc hv, colM_snoc]; unfold colV; rw [if_neg (by rw [hT]; decide)]
  have e2 : colN T (refs.take (j + 1)) = colN T (refs.take j) + 1 := by rw [take_snoc hv, colN_snoc, if_neg (by rw [hT]; decide)]
  obtain ⟨F2, d1, d2, d3⟩ := hD
  obtain ⟨n1, n2, n3, n4, n5, n6⟩ := h.n
  have hlow : ∀ k, F' k → k < w.heap.size := fun k hk => hF k (hF' k hk)
  have hblk : ∀ k, k < W.heap.size → w.heap.size ≤ k → W2.heap[k]? = W.heap[k]? := fun k h1 h2 => d2.block k h1 fun e => by have := hlow k e; omega
  have g6 := (hblk B6 (lt_of_block h.b6) n5).trans h.b6
  have hset : ∀ k, k ≠ B6 → (W2.setCell ⟨B6, 0, none⟩ (.int .i64 ((colN T (refs.take j) : Int) + 1))).heap[k]? = W2.heap[k]? := fun k hk => heap_setCell_other _ _ _ _ hk
  have hG2 : Gra W2 g vt mv vf T fs := h.gra.keep fun b hb => hblk b (h.gra.lt b hb) (n1 b hb)
  have hnb := hG2.not_box g6 (by decide) (by decide) (by decide)
  have h60 : B6 < w.heap.size ∨ w.heap.size ≤ B6 := by omega
  refine ⟨(hblk B0 (lt_of_block h.b0) n3).trans h.b0, by rw [cell_of_row _ _ 0 _ _ _ g6]; rfl, frozen_of_row _ _ 0 _ _ g6, ⟨⟨F2, ?_, fun k hk => hF' k (d3 k hk)⟩, ?_, ?_, ?_, ?_, ?_, ?_, ?_, h.n⟩, ?_, ?_⟩
  · rw [e1]
    exact d1.keep fun k hk => hset k fun e => by have := hlow k (d3 k hk); omega
  · exact hG2.keep fun b hb => hset b fun e => hnb (by rw [← e]; exact hb)
  · exact (hset B0 (Ne.symm h56.1)).trans ((hblk B0 (lt_of_block h.b0) n3).trans h.b0)
  · exact (hset B5 (Ne.symm h56.2.1)).trans ((hblk B5 (lt_of_block h.b5) n4).trans h.b5)
  · rw [e2, show (((colN T (refs.take j) + 1 : Nat) : Int)) = (colN T (refs.take j) : Int) + 1 by omega]
    exact heap_setCell_same W2 B6 0 _ _ _ g6
  · exact (hset BA (Ne.symm h56.2.2)).trans ((hblk BA (lt_of_block h.ba) n6).trans h.ba)
  · refine own_other h.row fun b e => ?_
    obtain ⟨cur, hcur⟩ := own_head h.row e
    refine (hset b fun e2 => ?_).trans (hblk b (lt_of_block hcur) (n2 b e))
    rw [e2, h.b6] at hcur
    cases hcur
  · refine ⟨d2.os.trans h.fr.os, d2.tape.trans h.fr.tape, d2.output.trans h.fr.output, ?_, fun k hk hf => ?_, h.fr.fresh⟩
    · have := d2.size
      have := h.fr.size
      simp; omega
    · have hz := h.fr.size
      exact (hset k (by omega)).trans ((d2.block k (by omega) fun e => hf (hF' k e)).trans (h.fr.block k hk hf))
  · intro B k o hB hk ho hcell
    have h6 : k ≠ B6 := fun e => by rw [e, h.b6] at ho; cases ho; cases hcell
    exact (hset k h6).trans ((hblk k (Array.getElem?_eq_some_iff.1 ho).1 (by omega)).trans ho)
  · have := d2.size
    simp; omega
end
end Go.Proofs.Ytekmboolfjicbaa
