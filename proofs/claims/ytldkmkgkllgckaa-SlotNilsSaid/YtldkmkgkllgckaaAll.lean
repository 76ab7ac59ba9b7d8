/- What All tells: a function that goes over a copy of a page's row by itself. -/
import Derived.Test.YtldkmkgkllgckaaIter
set_option linter.unusedSimpArgs false
namespace Go.Proofs.Ytldkmkgkllgckaa
open Go.RowKit Go.Shelf
attribute [local go_sem] Oper.semAt_some

/-- What All tells of a page. -/
structure Al (W w' : World) (Bs : Nat) (v : Value) (l : List Sl) : Prop where
  l1 : W.heap.size ≤ Bs
  h1 : Bs < w'.heap.size
  cell : w'.cell? ⟨Bs, 0, none⟩ = some v
  row : w'.ownsRow W.heap.size 56 2 v l.length (flat l)
theorem Al.high {W w' : World} {Bs : Nat} {v : Value} {l : List Sl} (h : Al W w' Bs v l) : ∀ b, v.ownBlock = some b → W.heap.size ≤ b ∧ b < w'.heap.size := fun b hb => h.row.lt b hb
theorem all_nil (w : World) : Calls Try.prog 8 #[.pointer none] w fun e w' => (∃ Bs v, e = .returned (.func (.func 23) #[] #[.pointer (some ⟨Bs, 0, none⟩)]) ∧ Al w w' Bs v []) ∧ Below w.heap.size w w' := by
  go_enter Try.func8, Try.ntmps8
  go_wp2_with fail
  go_ret
  have hb : Below w.heap.size w (w.alloc (.cells #[.slice none 0 0] 53)) := (Below.refl _ _).alloc (Nat.le_refl _) _
  exact ⟨⟨w.heap.size, .slice none 0 0, rfl, Nat.le_refl _, by simp, World.cell?_alloc_new w _ _ 0, World.ownsRow_nil _ _ _ _⟩, hb⟩
set_option maxHeartbeats 800000 in
theorem all_any {w : World} {g : Nat} {v : Value} {l : List Sl} (h : Pg0 w g v l) : Calls Try.prog 8 #[.pointer (some ⟨g, 0, none⟩)] w fun e w' => (∃ Bs v', e = .returned (.func (.func 23) #[] #[.pointer (some ⟨Bs, 0, none⟩)]) ∧ Al w w' Bs v' l) ∧ Below w.heap.size w w' := by
  have hb0 : Below w.heap.size w (w.alloc (.cells #[.slice none 0 0] 53)) := (Below.refl _ _).alloc (Nat.le_refl _) _
  have HB0 := Lib.hid hb0
  have HC := Lib.hid (clone_any (h.below hb0).row h.ok.len)
  have c0 := (h.below hb0).c0
  clear h hb0
  go_enter Try.func8, Try.ntmps8
  go_wp2_with fail
  refine HC.out.mono ?_
  rintro e w1 ⟨⟨v', rfl, hr⟩, hb⟩
  obtain ⟨q', c', rfl⟩ := own_form hr
  have hbox := hb.block w.heap.size (by simp)
  have hb2 : w1.heap[w.heap.size]? = some (.cells #[.slice none 0 0] 53 (0, 0)) := hbox.trans (heap_alloc_new w _)
  have x0 : w1.cell? ⟨w.heap.size, 0, none⟩ = some (.slice none 0 0) := by rw [cell_of_row w1 w.heap.size 0 _ _ _ hb2]; rfl
  have xf : w1.frozen? ⟨w.heap.size, 0, none⟩ = false := frozen_of_row w1 w.heap.size 0 _ _ hb2
  have HR := Lib.hid hr
  have HB := Lib.hid (HB0.out.trans (hb.mono HB0.out.size))
  have HSZ : Hid (w.heap.size < w1.heap.size) := Lib.hid (by have := hb.size; simp at this; omega)
  have HX := Lib.hid hb2
  clear hr hb hbox hb2
  go_wp2_with fail
  go_ret
  have hne : ∀ b, (Value.slice q' l.length c').ownBlock = some b → b ≠ w.heap.size := fun b hb => by have := (HR.out.lt b hb).1; simp at this; omega
  refine ⟨⟨w.heap.size, .slice q' l.length c', rfl, Nat.le_refl _, by simpa using HSZ.out, ?_, ?_⟩, HB.out.setCell (p := ⟨w.heap.size, 0, none⟩) (Nat.le_refl _) _⟩
  · rw [cell_of_row _ w.heap.size 0 _ _ _ (heap_setCell_same w1 w.heap.size 0 _ _ _ HX.out)]; rfl
  · have h1 : w1.ownsRow w.heap.size 56 2 (.slice q' l.length c') l.length (flat l) := by
      obtain ⟨e1, e2⟩ := HR.out
      refine ⟨e1, ?_⟩
      rcases e2 with e2 | ⟨g', cap, cur, e, hbb, hg, hrr⟩
      · exact .inl e2
      · exact .inr ⟨g', cap, cur, e, Nat.le_trans (by simp) hbb, hg, hrr⟩
    exact own_other h1 (fun b hb => heap_setCell_other w1 ⟨w.heap.size, 0, none⟩ b _ (hne b hb))
theorem all_stops (n : Nat) (hn : 1 ≤ n) (Bs M : Nat) (v : Value) (l : List Sl) (base : Nat) (hl : l.length ≤ 64) (hM : l.length < M) (w : World) (hB : Bs < w.heap.size) (hc : w.cell? ⟨Bs, 0, none⟩ = some v) (hr : w.ownsRow base 56 2 v l.length (flat l)) :
    SeqStopsK Fence.wide n Try.prog 23 #[.pointer (some ⟨Bs, 0, none⟩)] (fun x : Tl l => #[Value.int .i64 (x.1.1 : Int), .string x.1.2]) (KeepB v) (fun ys => ys = told l l.length) (fun pre => ∃ j, j ≤ l.length ∧ pre = told l j) M w := fun y J Jx W hW hJ _ hY h0 =>
  all1_in n hn y Bs M v l base hl hM J Jx hY W hJ ((hW.cell (p := ⟨Bs, 0, none⟩) hB).trans hc) (own_below hr hW) h0
end Go.Proofs.Ytldkmkgkllgckaa
