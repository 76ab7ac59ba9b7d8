/- A step of the law: it drops. -/
import Derived.Test.YthmajccajmnfcaaLStep0
set_option maxRecDepth 20000
set_option linter.unusedSimpArgs false
namespace Go.Proofs.Ythmajccajmnfcaa
open Go.RowKit

section
variable {w w' : World} {g : Nat} {F F' X : Nat → Prop} {m m' : Hm} {vl vl' : Value} {L L' : Pls} {lim : Int}
set_option maxHeartbeats 12800000 in
theorem step3 (h : Jt w g F X m vl L lim) (i v1 v2 x1 x2 : Int) (bb : Nat) (ok : Int) (q p : Option Addr) (n c d e : Nat) (hv : I64 v2) (_hx : I64 x2) (_hbb : bb < 256) :
    Calls Try.prog 30 #[.pointer (some ⟨g, 0, none⟩), .agg #[vl, .int .i64 lim], .agg (opA 3 i v1 v2 x1 x2 bb ok q n c p d e)] w fun ex w' => StepR w w' g F X lim ex := by
  have HJ := Lib.hid h
  have hlim := h.lim
  obtain ⟨q0, n0, c0, rfl⟩ := h.form
  have HRA : Hid (∀ w1, Below w.heap.size w w1 → w.heap.size + 3 ≤ w1.heap.size → Calls Try.prog 44 #[.agg #[.slice q0 n0 c0, .int .i64 lim], .agg #[.int .i64 v1, .int .i64 v2]] w1 fun ex w' => ∃ v, ex = .returned (.tuple #[v, .bool (hasP L (v1, v2))]) ∧ RGoes w1 w' (Gx (Fx F X) w.heap.size 3) lim (rDropL L (v1, v2)) v) := Lib.hid fun w1 hb hs3 => by
    obtain ⟨W, hr⟩ := h.gx 3
    have hl := h.len
    exact (hr.below hb).drop (by omega) (fun k hk => hk.elim (fun hk => Nat.lt_of_lt_of_le (h.flt k hk) hb.size) (fun hk => by omega)) lim v1 v2
  have HHA : Hid (∀ w1, Below w.heap.size w w1 → Calls Try.prog 12 #[.pointer (some ⟨g, 0, none⟩), .agg #[.int .i64 v1, .int .i64 v2]] w1 fun ex w' => ex = .returned (.bool (hasP m.L (v1, v2))) ∧ WentH F g (dropM m (v1, v2)) w1 w') := Lib.hid fun w1 hb => by
    obtain ⟨vr, mb, S, hh, rfl⟩ := h.hep.below hb
    exact hh.dropV v1 v2 hv.1 hv.2
  have HLT := Lib.hid h.hep.lt
  have HL2 : Hid (∀ M, M = (rDropL L (v1, v2)) → Sm M ∧ (M.length : Int) ≤ lim) := Lib.hid fun M e => by rw [e]; exact ⟨rdrop_sm h.smx, by rw [rdrop_len]; exact h.len⟩
  have HMM : Hid (∀ M, M = (dropM m (v1, v2)) → Here M.L ∧ Sm M.L) := Lib.hid fun M e => by rw [e]; exact ⟨drop_here h.here, drop_sm h.sm⟩
  have h3 := three_alloc w (.cells #[.slice q0 n0 c0, .int .i64 lim] 33) (.cells (opA 3 i v1 v2 x1 x2 bb ok q n c p d e) 44) (.cells #[.slice none 0 0, .int .i64 0] 33)
  have H3 := Lib.hid h3
  clear h h3 hv
  generalize (hasP L (v1, v2)) = rae at *
  generalize (hasP m.L (v1, v2)) = hae at *
  generalize (rDropL L (v1, v2)) = L2 at *
  generalize (dropM m (v1, v2)) = m2 at *
  unfold opA at H3 ⊢
  go_enter Try.func30, Try.ntmps30
  go_upto_region 1 with fail
  generalize ((w.alloc (.cells #[.slice q0 n0 c0, .int .i64 lim] 33)).alloc (.cells #[.int .i64 3, .int .i64 i, .int .i64 v1, .int .i64 v2, .int .i64 x1, .int .i64 x2, .int .u8 (bb : Int), .int .i64 ok, .slice q n c, .slice p d e] 44)).alloc (.cells #[.slice none 0 0, .int .i64 0] 33) = W1 at *
  obtain ⟨hx0, hx1, hx2, hsz, hb1⟩ := H3.out
  have a0 := cell_of_row _ _ 0 _ _ _ hx0
  have a1 := cell_of_row _ _ 1 _ _ _ hx0
  have b0 := cell_of_row _ _ 0 _ _ _ hx1
  have b1 := cell_of_row _ _ 1 _ _ _ hx1
  have b2' := cell_of_row _ _ 2 _ _ _ hx1
  have b3 := cell_of_row _ _ 3 _ _ _ hx1
  have b4 := cell_of_row _ _ 4 _ _ _ hx1
  have b5 := cell_of_row _ _ 5 _ _ _ hx1
  have b6 := cell_of_row _ _ 6 _ _ _ hx1
  simp at a0 a1 b0 b1 b2' b3 b4 b5 b6
  go_wp2_with fail
  with_reducible refine (HRA.out _ hb1 (by omega)).mono ?_
  rintro ex w2 ⟨v2', rfl, vl2, W2, rfl, hr2, hb2⟩
  obtain ⟨q2, c2, rfl⟩ := hr2.form
  go_upto_region 14 with fail
  have hb3 : Below w2.heap.size w2 (w2.alloc (.cells #[.slice q2 L2.length c2, .int .i64 lim] 33)) := (Below.refl _ _).alloc (Nat.le_refl _) _
  have HR3 := Lib.hid (hr2.below hb3)
  have HB2 := Lib.hid (hb1.trans (hb2.mono (by omega)))
  have HB3 := Lib.hid (HB2.out.trans (hb3.mono HB2.out.size))
  have hs2 : w.heap.size + 3 ≤ w2.heap.size := by have := hb2.size; omega
  have hy1 := (hb3.block _ (by omega)).trans ((hb2.block _ (by omega)).trans hx1)
  have hy2 := (hb3.block _ (by omega)).trans ((hb2.block _ (by omega)).trans hx2)
  have hy8 := heap_alloc_new w2 (.cells #[.slice q2 L2.length c2, .int .i64 lim] 33)
  clear a0 a1 b0 b1 b2' b3 b4 b5 b6 hx0 hx1 hx2 hb2 hb1 hr2 HRA H3 hb3
  generalize L2.length = n2 at *
  generalize w2.alloc (.cells #[.slice q2 n2 c2, .int .i64 lim] 33) = w3 at *
  have nF : ∀ k2, w.heap.size ≤ k2 → ¬ F k2 := fun k2 hk hf => by have := HLT.out k2 hf; omega
  have HBX : Hid (∀ u : World, u.heap[w.heap.size + 1]? = w3.heap[w.heap.size + 1]? → u.heap[w2.heap.size]? = w3.heap[w2.heap.size]? → u.cell? ⟨w2.heap.size, 0, none⟩ = some (.slice q2 n2 c2) ∧ u.cell? ⟨w2.heap.size, 1, none⟩ = some (.int .i64 lim) ∧ u.cell? ⟨w.heap.size + 1, 1, none⟩ = some (.int .i64 i) ∧ u.cell? ⟨w.heap.size + 1, 2, none⟩ = some (.int .i64 v1) ∧ u.cell? ⟨w.heap.size + 1, 3, none⟩ = some (.int .i64 v2) ∧ u.cell? ⟨w.heap.size + 1, 4, none⟩ = some (.int .i64 x1) ∧ u.cell? ⟨w.heap.size + 1, 5, none⟩ = some (.int .i64 x2) ∧ u.cell? ⟨w.heap.size + 1, 6, none⟩ = some (.int .u8 (bb : Int))) := Lib.hid fun u e1 e2 => by
    have h1 := e1.trans hy1
    have h2 := e2.trans hy8
    have g0 := cell_of_row _ _ 0 _ _ _ h2
    have g1 := cell_of_row _ _ 1 _ _ _ h2
    have b1 := cell_of_row _ _ 1 _ _ _ h1
    have b2' := cell_of_row _ _ 2 _ _ _ h1
    have b3 := cell_of_row _ _ 3 _ _ _ h1
    have b4 := cell_of_row _ _ 4 _ _ _ h1
    have b5 := cell_of_row _ _ 5 _ _ _ h1
    have b6 := cell_of_row _ _ 6 _ _ _ h1
    simp at g0 g1 b1 b2' b3 b4 b5 b6
    exact ⟨g0, g1, b1, b2', b3, b4, b5, b6⟩
  obtain ⟨t0, t1, t2, t3, t4, t5, t6, t7⟩ := HBX.out w3 rfl rfl
  have n12 : w.heap.size + 1 + 1 ≠ w.heap.size + 1 := by omega
  have n22 : w.heap.size + 1 + 1 ≠ w2.heap.size := by omega
  go_region_held3 (fun u : World => u.cell? ⟨w2.heap.size, 0, none⟩ = some (.slice q2 n2 c2) ∧ u.cell? ⟨w2.heap.size, 1, none⟩ = some (.int .i64 lim) ∧ u.cell? ⟨w.heap.size + 1, 1, none⟩ = some (.int .i64 i) ∧ u.cell? ⟨w.heap.size + 1, 2, none⟩ = some (.int .i64 v1) ∧ u.cell? ⟨w.heap.size + 1, 3, none⟩ = some (.int .i64 v2) ∧ u.cell? ⟨w.heap.size + 1, 4, none⟩ = some (.int .i64 x1) ∧ u.cell? ⟨w.heap.size + 1, 5, none⟩ = some (.int .i64 x2) ∧ u.cell? ⟨w.heap.size + 1, 6, none⟩ = some (.int .u8 (bb : Int))) ((first
      | with_reducible exact ⟨t0, t1, t2, t3, t4, t5, t6, t7⟩
      | go_keep)) (first
    | (go_at_call 12
       with_reducible refine (HHA.out _ HB3.out.drew).mono ?_
       rintro ex w4 ⟨rfl, F4, hh4, hc4⟩
       have hc4 : Chp F F4 w3 w4 := hc4.of_drew
       obtain ⟨hz1, -⟩ := box_stay hc4 hy1 (nF _ (by omega))
       obtain ⟨hz8, -⟩ := box_stay hc4 hy8 (nF _ (by omega))
       obtain ⟨hz2, nf2⟩ := box_stay hc4 hy2 (nF _ (by omega))
       obtain ⟨t0, t1, t2, t3, t4, t5, t6, t7⟩ := HBX.out w4 (hz1.trans hy1.symm) (hz8.trans hy8.symm)
       have g6 := cell_of_row _ _ 0 _ _ _ hz2
       have g7 := cell_of_row _ _ 1 _ _ _ hz2
       have f6 := frozen_of_row _ _ 0 _ _ hz2
       have f7 := frozen_of_row _ _ 1 _ _ hz2
       simp at g6 g7))
  have HC4 := Lib.hid ((Chp.of_below (F := F) HB3.out).trans hc4)
  have HR5 := Lib.hid (HR3.out.chpG hc4)
  have hF := two_row w4 (w.heap.size + 1 + 1) _ _ _ (.slice q2 n2 c2) (.int .i64 lim) hz2
  have HEND := Lib.hid (Jt.ends (V := ((w4.setCell ⟨w.heap.size + 1 + 1, 0, none⟩ (.slice q2 n2 c2)).setCell ⟨w.heap.size + 1 + 1, 1, none⟩ (.int .i64 lim))) (A := w.heap.size + 1 + 1) hh4 HR5.out (HMM.out _ rfl).1 (HMM.out _ rfl).2 (HL2.out _ rfl).1 (HL2.out _ rfl).2 HJ.out.lim HJ.out.xlt HC4.out ⟨by omega, by omega⟩ nf2 (by omega) (fun k hk => (heap_setCell_other _ _ _ _ hk).trans (heap_setCell_other _ _ _ _ hk)) rfl rfl rfl (by simp))
  go_wp2_with fail
  have v0 := cell_of_row _ _ 0 _ _ _ hF
  have v1' := cell_of_row _ _ 1 _ _ _ hF
  simp at v0 v1'
  exact bodyPost_ret (v := .tuple #[.agg #[.slice q2 n2 c2, .int .i64 lim], .bool (hae == rae)]) (by simp [results, Try.results30, go_sem, v0, v1']) rfl ⟨_, _, _, _, _, rfl, HEND.out.1, HEND.out.2⟩
end
end Go.Proofs.Ythmajccajmnfcaa
