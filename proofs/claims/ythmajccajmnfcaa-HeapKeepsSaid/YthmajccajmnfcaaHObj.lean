/- An object, copied. -/
import Derived.Test.YthmajccajmnfcaaHAsk2
set_option maxRecDepth 20000
set_option linter.unusedSimpArgs false
namespace Go.Proofs.Ythmajccajmnfcaa
open Go.RowKit

/-- Objects as they may be in a memory: so many values and bytes. -/
def Sm (L : Pls) : Prop := ∀ i c, clAt L i = some c → c.o.vs.length ≤ 256 ∧ c.o.bs.length ≤ 4096
theorem Cpy.zero (w : World) : Cpy w w ⟨0, [], []⟩ (.slice none 0 0) (.slice none 0 0) := ⟨World.ownsRow_nil _ _ _ _, World.ownsRow_nil _ _ _ _, Below.refl _ _⟩
section
variable {w w' : World} {g mb : Nat} {vr : Value} {S : Nat → Option Pos} {m : Hm}
set_option maxHeartbeats 3200000 in
theorem Hp.obj (h : Hp w g vr mb S m) (hh : Here m.L) (hm : Sm m.L) (K N : Int) (h0 : -9223372036854775808 ≤ N) (h1 : N ≤ 9223372036854775807) :
    Calls Try.prog 13 #[.pointer (some ⟨g, 0, none⟩), .agg #[.int .i64 K, .int .i64 N]] w fun e w' => ∃ vv vb, e = .returned (.tuple #[.agg #[.int .i64 (obAt m.L (K, N)).k, vv, vb], .int .i64 (hasE m.L (K, N))]) ∧ Cpy w w' (obAt m.L (K, N)) vv vb := by
  have HB0 : Hid (Below w.heap.size w ((w.alloc (.cells #[.int .i64 K, .int .i64 N] 38)).alloc (.cells #[.int .i64 0, .slice none 0 0, .slice none 0 0] 27))) := Lib.hid (((Below.refl _ _).alloc (Nat.le_refl _) _).alloc (by simp) _)
  have hx2 : ((w.alloc (.cells #[.int .i64 K, .int .i64 N] 38)).alloc (.cells #[.int .i64 0, .slice none 0 0, .slice none 0 0] 27)).heap[w.heap.size + 1]? = some (.cells #[.int .i64 0, .slice none 0 0, .slice none 0 0] 27 (0, 0)) := heap_alloc2_new w _ _
  have HX2 := Lib.hid hx2
  have hsz : ((w.alloc (.cells #[.int .i64 K, .int .i64 N] 38)).alloc (.cells #[.int .i64 0, .slice none 0 0, .slice none 0 0] 27)).heap.size = w.heap.size + 2 := by simp
  have HSZ := Lib.hid hsz
  have HC := h.thereH hh K N h0 h1
  clear hx2 hsz
  cases hv : hasP m.L (K, N) with
  | false =>
    rw [hasE_none hv, obAt_none hv]
    rw [cellV_nil _ _ _ hv, hasE_none hv] at HC
    clear h hv
    go_enter Try.func13, Try.ntmps13
    go_upto_region 2 with (go_at_call 37; with_reducible refine (HC.out _ HB0.out).mono ?_; rintro e w1 ⟨rfl, hb⟩)
    have hx3 := (hb.block (w.heap.size + 1) (by have := HSZ.out; omega)).trans HX2.out
    have HB1 := Lib.hid (HB0.out.trans (hb.mono (by have := HSZ.out; omega)))
    have y0 := cell_of_row _ _ 0 _ _ _ hx3
    have y1 := cell_of_row _ _ 1 _ _ _ hx3
    have y2 := cell_of_row _ _ 2 _ _ _ hx3
    have f0 := frozen_of_row _ _ 0 _ _ hx3
    have f1 := frozen_of_row _ _ 1 _ _ hx3
    have f2 := frozen_of_row _ _ 2 _ _ hx3
    simp at y0 y1 y2
    have hF := three_row w1 (w.heap.size + 1) _ _ _ _ (.int .i64 0) (.slice none 0 0) (.slice none 0 0) hx3
    have HBF : Hid (Below w.heap.size w (((w1.setCell ⟨w.heap.size + 1, 0, none⟩ (.int .i64 0)).setCell ⟨w.heap.size + 1, 1, none⟩ (.slice none 0 0)).setCell ⟨w.heap.size + 1, 2, none⟩ (.slice none 0 0))) :=
      Lib.hid (((HB1.out.setCell (by show w.heap.size ≤ w.heap.size + 1; omega) _).setCell (by show w.heap.size ≤ w.heap.size + 1; omega) _).setCell (by show w.heap.size ≤ w.heap.size + 1; omega) _)
    clear hb
    go_wp2_with fail
    generalize ((w1.setCell ⟨w.heap.size + 1, 0, none⟩ (.int .i64 0)).setCell ⟨w.heap.size + 1, 1, none⟩ (.slice none 0 0)).setCell ⟨w.heap.size + 1, 2, none⟩ (.slice none 0 0) = V at *
    have v0 := cell_of_row _ _ 0 _ _ _ hF
    have v1 := cell_of_row _ _ 1 _ _ _ hF
    have v2 := cell_of_row _ _ 2 _ _ _ hF
    simp at v0 v1 v2
    exact bodyPost_ret (v := .tuple #[.agg #[.int .i64 0, .slice none 0 0, .slice none 0 0], .int .i64 5]) (by simp [results, Try.results13, go_sem, v0, v1, v2]) rfl ⟨_, _, rfl, World.ownsRow_nil _ _ _ _, World.ownsRow_nil _ _ _ _, HBF.out⟩
  | true =>
    obtain ⟨_, _, c, hc⟩ := hasP_iff.1 hv
    obtain ⟨x, hx, hca, e⟩ := h.cellV_some hv hc
    rw [e, hasE_some hv] at HC
    rw [hasE_some hv, obAt_some hv hc]
    obtain ⟨s1, s2⟩ := hm _ c hc
    have hvs := hca.vs
    have hbs := hca.bs
    have c0 := hca.c0
    have c1 := hca.c1
    have c2 := hca.c2
    obtain ⟨q, d, e1⟩ := hca.vform
    obtain ⟨q2, d2, e2⟩ := hca.bform
    rw [e1] at c1 hvs
    rw [e2] at c2 hbs
    have HVL := Lib.hid (Vls.own hvs)
    have HBL := Lib.hid (Bys.own hbs hca.dig)
    have HY : Hid (∀ w1, Below w.heap.size w w1 → w1.cell? ⟨x.1, 0, none⟩ = some (.int .i64 c.o.k) ∧ w1.cell? ⟨x.1, 1, none⟩ = some (.slice q c.o.vs.length d) ∧ w1.cell? ⟨x.1, 2, none⟩ = some (.slice q2 c.o.bs.length d2)) := Lib.hid fun w1 hb =>
      ⟨(hb.cell (World.block_lt_of_cell? w _ c0)).trans c0, (hb.cell (World.block_lt_of_cell? w _ c1)).trans c1, (hb.cell (World.block_lt_of_cell? w _ c2)).trans c2⟩
    have HCO : Hid (∀ w1, Below w.heap.size w w1 → Calls Try.prog 35 #[.agg #[.int .i64 c.o.k, .slice q c.o.vs.length d, .slice q2 c.o.bs.length d2]] w1 fun ex w' => ∃ vv vb, ex = .returned (.agg #[.int .i64 c.o.k, vv, vb]) ∧ Cpy w1 w' c.o vv vb) := Lib.hid fun w1 hb =>
      copyOf_any c.o q q2 _ d _ d2 w1 (HVL.out.below hb) (HBL.out.below hb) (by omega) (by omega)
    clear h hv e hca hc e1 e2 hvs hbs c0 c1 c2 HVL HBL hm
    generalize c.o = o at *
    go_enter Try.func13, Try.ntmps13
    go_upto_region 2 with (go_at_call 37; with_reducible refine (HC.out _ HB0.out).mono ?_; rintro e w1 ⟨rfl, hb⟩)
    have hx3 := (hb.block (w.heap.size + 1) (by have := HSZ.out; omega)).trans HX2.out
    have HB1 := Lib.hid (HB0.out.trans (hb.mono (by have := HSZ.out; omega)))
    obtain ⟨z0, z1, z2⟩ := HY.out _ HB1.out
    clear hb
    go_wp2_with (go_at_call 35; with_reducible refine (HCO.out _ HB1.out).mono ?_; rintro ex w2 ⟨vv, vb, rfl, hcp⟩; obtain ⟨qa, ca, rfl⟩ := own_form hcp.vs; obtain ⟨qb, cb, rfl⟩ := own_form hcp.bs; have hx4 := (hcp.below.block _ (lt_of_block hx3)).trans hx3; have y0 := cell_of_row _ _ 0 _ _ _ hx4; have y1 := cell_of_row _ _ 1 _ _ _ hx4; have y2 := cell_of_row _ _ 2 _ _ _ hx4; have f0 := frozen_of_row _ _ 0 _ _ hx4; have f1 := frozen_of_row _ _ 1 _ _ hx4; have f2 := frozen_of_row _ _ 2 _ _ hx4; simp at y0 y1 y2)
    have hF := three_row w2 (w.heap.size + 1) _ _ _ _ (.int .i64 o.k) (.slice qa o.vs.length ca) (.slice qb o.bs.length cb) hx4
    have hlt := lt_of_block hx3
    have HC2 : Hid (Cpy w (((w2.setCell ⟨w.heap.size + 1, 0, none⟩ (.int .i64 o.k)).setCell ⟨w.heap.size + 1, 1, none⟩ (.slice qa o.vs.length ca)).setCell ⟨w.heap.size + 1, 2, none⟩ (.slice qb o.bs.length cb)) o (.slice qa o.vs.length ca) (.slice qb o.bs.length cb)) := Lib.hid (by
      have hne : ∀ b, w1.heap.size ≤ b → b ≠ w.heap.size + 1 := fun b hb e => by omega
      refine ⟨own_low (own_other hcp.vs fun b hb => ?_) HB1.out.size, own_low (own_other hcp.bs fun b hb => ?_) HB1.out.size, (((HB1.out.trans (hcp.below.mono HB1.out.size)).setCell (by show w.heap.size ≤ w.heap.size + 1; omega) _).setCell (by show w.heap.size ≤ w.heap.size + 1; omega) _).setCell (by show w.heap.size ≤ w.heap.size + 1; omega) _⟩
      · have h1 := hne b (own_ge hcp.vs hb)
        rw [Below.heap_setCell _ _ _ _ h1, Below.heap_setCell _ _ _ _ h1, Below.heap_setCell _ _ _ _ h1]
      · have h1 := hne b (own_ge hcp.bs hb)
        rw [Below.heap_setCell _ _ _ _ h1, Below.heap_setCell _ _ _ _ h1, Below.heap_setCell _ _ _ _ h1])
    go_wp2_with fail
    generalize ((w2.setCell ⟨w.heap.size + 1, 0, none⟩ (.int .i64 o.k)).setCell ⟨w.heap.size + 1, 1, none⟩ (.slice qa o.vs.length ca)).setCell ⟨w.heap.size + 1, 2, none⟩ (.slice qb o.bs.length cb) = V at *
    have v0 := cell_of_row _ _ 0 _ _ _ hF
    have v1 := cell_of_row _ _ 1 _ _ _ hF
    have v2 := cell_of_row _ _ 2 _ _ _ hF
    simp at v0 v1 v2
    exact bodyPost_ret (v := .tuple #[.agg #[.int .i64 o.k, .slice qa o.vs.length ca, .slice qb o.bs.length cb], .int .i64 0]) (by simp [results, Try.results13, go_sem, v0, v1, v2]) rfl ⟨_, _, rfl, HC2.out⟩
end
end Go.Proofs.Ythmajccajmnfcaa
