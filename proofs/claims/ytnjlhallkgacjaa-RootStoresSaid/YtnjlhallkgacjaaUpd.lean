/- A disk in memory, and a store into one of its fields. -/
import Derived.Test.YtnjlhallkgacjaaMem
namespace Go.Proofs.Ytnjlhallkgacjaa
open Go.RowKit

section
variable {w : World} {g bO cO bL cL : Nat} {vW : Value} {os ls : List Value} {ws : List Vw} {m : Dsk}
theorem Dk0.c0 (h : Dk0 w g bO cO bL cL vW os ls ws m) : w.cell? ⟨g, 0, none⟩ = some (.slice (some ⟨bO, 0, none⟩) m.out.length cO) := by rw [cell_of_row w g 0 _ _ _ h.hd]; rfl
theorem Dk0.c1 (h : Dk0 w g bO cO bL cL vW os ls ws m) : w.cell? ⟨g, 1, none⟩ = some (.slice (some ⟨bL, 0, none⟩) m.out.length cL) := by rw [cell_of_row w g 1 _ _ _ h.hd]; rfl
theorem Dk0.c2 (h : Dk0 w g bO cO bL cL vW os ls ws m) : w.cell? ⟨g, 2, none⟩ = some vW := by rw [cell_of_row w g 2 _ _ _ h.hd]; rfl
theorem Dk0.c3 (h : Dk0 w g bO cO bL cL vW os ls ws m) : w.cell? ⟨g, 3, none⟩ = some (.int .i64 m.fuse) := by rw [cell_of_row w g 3 _ _ _ h.hd]; rfl
theorem Dk0.c4 (h : Dk0 w g bO cO bL cL vW os ls ws m) : w.cell? ⟨g, 4, none⟩ = some (.bool m.down) := by rw [cell_of_row w g 4 _ _ _ h.hd]; rfl
theorem Dk0.c5 (h : Dk0 w g bO cO bL cL vW os ls ws m) : w.cell? ⟨g, 5, none⟩ = some (.int .i64 (m.done : Int)) := by rw [cell_of_row w g 5 _ _ _ h.hd]; rfl
theorem Dk0.fz (h : Dk0 w g bO cO bL cL vW os ls ws m) (i : Nat) : w.frozen? ⟨g, i, none⟩ = false := frozen_of_row w g i _ _ h.hd
theorem Dk0.lt (h : Dk0 w g bO cO bL cL vW os ls ws m) : g < w.heap.size := lt_of_block h.hd
theorem ne_of_ty {a b : Nat} {cs ds : Array Value} {t u : Nat} {fr fs : Nat × Nat} (h : w.heap[a]? = some (.cells cs t fr)) (k : w.heap[b]? = some (.cells ds u fs)) (ht : t ≠ u) : a ≠ b := by
  rintro rfl
  rw [h] at k
  cases k
  exact ht rfl
theorem Dk0.ne_gO (h : Dk0 w g bO cO bL cL vW os ls ws m) : g ≠ bO := by obtain ⟨cur, hc⟩ := own_head h.ro rfl; exact ne_of_ty h.hd hc (by decide)
theorem Dk0.ne_gL (h : Dk0 w g bO cO bL cL vW os ls ws m) : g ≠ bL := by obtain ⟨cur, hc⟩ := own_head h.rl rfl; exact ne_of_ty h.hd hc (by decide)
theorem Dk0.ne_gW (h : Dk0 w g bO cO bL cL vW os ls ws m) : ∀ k, vW.ownBlock = some k → g ≠ k := fun k hk => by obtain ⟨cur, hc⟩ := own_head h.rw_ hk; exact ne_of_ty h.hd hc (by decide)
theorem Dk0.ne_OW (h : Dk0 w g bO cO bL cL vW os ls ws m) : ∀ k, vW.ownBlock = some k → bO ≠ k := fun k hk => by obtain ⟨cur, hc⟩ := own_head h.rw_ hk; obtain ⟨cur2, hc2⟩ := own_head h.ro rfl; exact ne_of_ty hc2 hc (by decide)
theorem Dk0.ne_LW (h : Dk0 w g bO cO bL cL vW os ls ws m) : ∀ k, vW.ownBlock = some k → bL ≠ k := fun k hk => by obtain ⟨cur, hc⟩ := own_head h.rw_ hk; obtain ⟨cur2, hc2⟩ := own_head h.rl rfl; exact ne_of_ty hc2 hc (by decide)
theorem Dk0.typedG (h : Dk0 w g bO cO bL cL vW os ls ws m) : Typed w [g] := fun k hk => by obtain rfl := List.mem_singleton.1 hk; exact ⟨_, _, _, h.hd, .inl rfl⟩
/-- The rows of a disk stay while only its own block changes. -/
theorem Dk0.rest (h : Dk0 w g bO cO bL cL vW os ls ws m) {w' : World} {F' : List Nat} (hc : Chg [g] F' w w') :
    w'.ownsRow 0 45 1 (.slice (some ⟨bO, 0, none⟩) m.out.length cO) m.out.length os ∧ w'.ownsRow 0 45 1 (.slice (some ⟨bL, 0, none⟩) m.out.length cL) m.out.length ls ∧ w'.ownsRow 0 81 2 vW m.row.length (flat ws) ∧
    Secs w' os m.out ∧ Secs w' ls m.last ∧ Vws w' ws m.row := by
  have hs : ∀ k, k ≠ g → k < w.heap.size → w'.heap[k]? = w.heap[k]? := fun k hk hl => hc.block k hl (by simp [hk])
  refine ⟨own_other h.ro (fun k hk => ?_), own_other h.rl (fun k hk => ?_), own_other h.rw_ (fun k hk => ?_), h.so.chg hc h.typedG, h.sl.chg hc h.typedG, h.sw.chg hc h.typedG⟩
  · obtain ⟨cur, hc2⟩ := own_head h.ro hk; cases hk; exact hs _ (Ne.symm h.ne_gO) (lt_of_block hc2)
  · obtain ⟨cur, hc2⟩ := own_head h.rl hk; cases hk; exact hs _ (Ne.symm h.ne_gL) (lt_of_block hc2)
  · obtain ⟨cur, hc2⟩ := own_head h.rw_ hk; exact hs _ (Ne.symm (h.ne_gW _ hk)) (lt_of_block hc2)
theorem Dk0.setFuse (h : Dk0 w g bO cO bL cL vW os ls ws m) (f : Int) (h0 : -1 ≤ f) (h1 : f ≤ 9223372036854775807) : Dk0 (w.setCell ⟨g, 3, none⟩ (.int .i64 f)) g bO cO bL cL vW os ls ws { m with fuse := f } := by
  obtain ⟨r1, r2, r3, r4, r5, r6⟩ := h.rest (Chg.setCell (F := [g]) (g := g) (i := 3) (by simp) (.int .i64 f) w)
  exact ⟨heap_setCell_same w g 3 _ _ _ h.hd, r1, r2, r3, r4, r5, r6, h.nil_, h.ne, ⟨h.ok.out, h.ok.row, h0, h1⟩⟩
theorem Dk0.setDown (h : Dk0 w g bO cO bL cL vW os ls ws m) (b : Bool) : Dk0 (w.setCell ⟨g, 4, none⟩ (.bool b)) g bO cO bL cL vW os ls ws { m with down := b } := by
  obtain ⟨r1, r2, r3, r4, r5, r6⟩ := h.rest (Chg.setCell (F := [g]) (g := g) (i := 4) (by simp) (.bool b) w)
  exact ⟨heap_setCell_same w g 4 _ _ _ h.hd, r1, r2, r3, r4, r5, r6, h.nil_, h.ne, ⟨h.ok.out, h.ok.row, h.ok.fuse0, h.ok.fuse1⟩⟩
theorem Dk0.setDone (h : Dk0 w g bO cO bL cL vW os ls ws m) (n : Nat) : Dk0 (w.setCell ⟨g, 5, none⟩ (.int .i64 (n : Int))) g bO cO bL cL vW os ls ws { m with done := n } := by
  obtain ⟨r1, r2, r3, r4, r5, r6⟩ := h.rest (Chg.setCell (F := [g]) (g := g) (i := 5) (by simp) (.int .i64 (n : Int)) w)
  exact ⟨heap_setCell_same w g 5 _ _ _ h.hd, r1, r2, r3, r4, r5, r6, h.nil_, h.ne, ⟨h.ok.out, h.ok.row, h.ok.fuse0, h.ok.fuse1⟩⟩
theorem Dk0.chgG (i : Nat) (v : Value) (w : World) : Chg (foot g bO bL vW) (foot g bO bL vW) w (w.setCell ⟨g, i, none⟩ v) := Chg.setCell (by simp [foot]) v w
theorem Dk0.went (h : Dk0 w g bO cO bL cL vW os ls ws m) : Dk w g (foot g bO bL vW) m := ⟨_, _, _, _, _, _, _, _, h, rfl⟩
end
end Go.Proofs.Ytnjlhallkgacjaa
