/- A step of the law: it asks. -/
import Derived.Test.YthmajccajmnfcaaLStep0
set_option maxRecDepth 20000
set_option linter.unusedSimpArgs false
namespace Go.Proofs.Ythmajccajmnfcaa
open Go.RowKit

section
variable {w w' : World} {g : Nat} {F F' X : Nat → Prop} {m m' : Hm} {vl vl' : Value} {L L' : Pls} {lim : Int}
set_option maxHeartbeats 12800000 in
theorem step4 (h : Jt w g F X m vl L lim) (kind i v1 v2 x1 x2 : Int) (bb : Nat) (ok : Int) (q p : Option Addr) (n c d e : Nat) (hv : I64 v2) (k0 : kind ≠ 0) (k1 : kind ≠ 1) (k2 : kind ≠ 2) (k3 : kind ≠ 3) :
    Calls Try.prog 30 #[.pointer (some ⟨g, 0, none⟩), .agg #[vl, .int .i64 lim], .agg (opA kind i v1 v2 x1 x2 bb ok q n c p d e)] w fun ex w' => StepR w w' g F X lim ex := by
  have HJ := Lib.hid h
  have hlim := h.lim
  have d0 : (kind == 0) = false := by simp [k0]
  have d1 : (kind == 1) = false := by simp [k1]
  have d2 : (kind == 2) = false := by simp [k2]
  have d3 : (kind == 3) = false := by simp [k3]
  obtain ⟨q0, n0, c0, rfl⟩ := h.form
  have HHA : Hid (∀ w1, Below w.heap.size w w1 → Calls Try.prog 45 #[.pointer (some ⟨g, 0, none⟩), .agg #[.slice q0 n0 c0, .int .i64 lim], .agg #[.int .i64 v1, .int .i64 v2], .int .i64 i] w1 fun ex w' => IsB ex ∧ Below w1.heap.size w1 w') := Lib.hid fun w1 hb => by
    obtain ⟨vr, mb, S, hh, rfl⟩ := h.hep.below hb
    obtain ⟨W, hr⟩ := h.row
    have hl := h.len
    exact asks_any hh h.here h.sm (hr.below hb) (by omega) h.smx lim v1 v2 i hv
  obtain ⟨W0, hr0⟩ := h.gx 3
  have HR0 := Lib.hid hr0
  have HLT := Lib.hid h.hep.lt
  have h3 := three_alloc w (.cells #[.slice q0 n0 c0, .int .i64 lim] 33) (.cells (opA kind i v1 v2 x1 x2 bb ok q n c p d e) 44) (.cells #[.slice none 0 0, .int .i64 0] 33)
  have H3 := Lib.hid h3
  clear h h3 hv k0 k1 k2 k3 hr0
  unfold opA at H3 ⊢
  go_enter Try.func30, Try.ntmps30
  go_upto_region 1 with fail
  generalize ((w.alloc (.cells #[.slice q0 n0 c0, .int .i64 lim] 33)).alloc (.cells #[.int .i64 kind, .int .i64 i, .int .i64 v1, .int .i64 v2, .int .i64 x1, .int .i64 x2, .int .u8 (bb : Int), .int .i64 ok, .slice q n c, .slice p d e] 44)).alloc (.cells #[.slice none 0 0, .int .i64 0] 33) = W1 at *
  obtain ⟨hx0, hx1, hx2, hsz, hb1⟩ := H3.out
  have b0 := cell_of_row _ _ 0 _ _ _ hx1
  simp at b0
  go_upto_region 15 with fail
  have nF : ∀ k2, w.heap.size ≤ k2 → ¬ F k2 := fun k2 hk hf => by have := HLT.out k2 hf; omega
  have HBX : Hid (∀ u : World, u.heap[w.heap.size]? = W1.heap[w.heap.size]? → u.heap[w.heap.size + 1]? = W1.heap[w.heap.size + 1]? → u.cell? ⟨w.heap.size, 0, none⟩ = some (.slice q0 n0 c0) ∧ u.cell? ⟨w.heap.size, 1, none⟩ = some (.int .i64 lim) ∧ u.cell? ⟨w.heap.size + 1, 1, none⟩ = some (.int .i64 i) ∧ u.cell? ⟨w.heap.size + 1, 2, none⟩ = some (.int .i64 v1) ∧ u.cell? ⟨w.heap.size + 1, 3, none⟩ = some (.int .i64 v2)) := Lib.hid fun u e1 e2 => by
    have h1 := e1.trans hx0
    have h2 := e2.trans hx1
    have g0 := cell_of_row _ _ 0 _ _ _ h1
    have g1 := cell_of_row _ _ 1 _ _ _ h1
    have b1 := cell_of_row _ _ 1 _ _ _ h2
    have b2' := cell_of_row _ _ 2 _ _ _ h2
    have b3 := cell_of_row _ _ 3 _ _ _ h2
    simp at g0 g1 b1 b2' b3
    exact ⟨g0, g1, b1, b2', b3⟩
  obtain ⟨t0, t1, t2, t3, t4⟩ := HBX.out W1 rfl rfl
  have n12 : w.heap.size + 1 + 1 ≠ w.heap.size + 1 := by omega
  have n22 : w.heap.size + 1 + 1 ≠ w.heap.size := by omega
  go_region_held3 (fun u : World => u.cell? ⟨w.heap.size, 0, none⟩ = some (.slice q0 n0 c0) ∧ u.cell? ⟨w.heap.size, 1, none⟩ = some (.int .i64 lim) ∧ u.cell? ⟨w.heap.size + 1, 1, none⟩ = some (.int .i64 i) ∧ u.cell? ⟨w.heap.size + 1, 2, none⟩ = some (.int .i64 v1) ∧ u.cell? ⟨w.heap.size + 1, 3, none⟩ = some (.int .i64 v2)) ((first
      | with_reducible exact ⟨t0, t1, t2, t3, t4⟩
      | go_keep)) (first
    | (go_at_call 45
       with_reducible refine (HHA.out _ hb1.drew).mono ?_
       rintro ex w4 ⟨⟨bq, rfl⟩, hb4⟩
       have hb4 : Below W1.heap.size W1 w4 := (Below.refl _ _).drew.trans hb4
       have hz2 := (hb4.block _ (by omega)).trans hx2
       obtain ⟨t0, t1, t2, t3, t4⟩ := HBX.out w4 (hb4.block _ (by omega)) (hb4.block _ (by omega))
       have g6 := cell_of_row _ _ 0 _ _ _ hz2
       have g7 := cell_of_row _ _ 1 _ _ _ hz2
       have f6 := frozen_of_row _ _ 0 _ _ hz2
       have f7 := frozen_of_row _ _ 1 _ _ hz2
       simp at g6 g7))
  have hbw := hb1.trans (hb4.mono (by omega))
  have hF := two_row w4 (w.heap.size + 1 + 1) _ _ _ (.slice q0 n0 c0) (.int .i64 lim) hz2
  have HEND := Lib.hid (Jt.ends (V := ((w4.setCell ⟨w.heap.size + 1 + 1, 0, none⟩ (.slice q0 n0 c0)).setCell ⟨w.heap.size + 1 + 1, 1, none⟩ (.int .i64 lim))) (A := w.heap.size + 1 + 1) (HJ.out.hep.below hbw) (HR0.out.below hbw) HJ.out.here HJ.out.sm HJ.out.smx HJ.out.len HJ.out.lim HJ.out.xlt (Chp.of_below hbw) ⟨by omega, by omega⟩ (nF _ (by omega)) (by omega) (fun k hk => (heap_setCell_other _ _ _ _ hk).trans (heap_setCell_other _ _ _ _ hk)) rfl rfl rfl (by simp))
  go_wp2_with fail
  have v0 := cell_of_row _ _ 0 _ _ _ hF
  have v1' := cell_of_row _ _ 1 _ _ _ hF
  simp at v0 v1'
  exact bodyPost_ret (v := .tuple #[.agg #[.slice q0 n0 c0, .int .i64 lim], .bool bq]) (by simp [results, Try.results30, go_sem, v0, v1']) rfl ⟨_, _, _, _, _, rfl, HEND.out.1, HEND.out.2⟩
end
end Go.Proofs.Ythmajccajmnfcaa
