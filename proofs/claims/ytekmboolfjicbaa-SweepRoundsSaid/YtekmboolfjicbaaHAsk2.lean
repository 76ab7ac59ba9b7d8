/- An object's value; an object, copied. -/
import Derived.Test.YtekmboolfjicbaaHAsk
set_option maxRecDepth 20000
set_option linter.unusedSimpArgs false
namespace Go.Proofs.Ytekmboolfjicbaa
open Go.RowKit

def atE (L : Pls) (v : Int × Int) (i : Int) : Int := if hasP L v = false then 5 else if i < 0 ∨ ((obAt L v).vs.length : Int) ≤ i then 7 else 0
def atV (L : Pls) (v : Int × Int) (i : Int) : Int × Int := if atE L v i = 0 then (obAt L v).vs.getD i.toNat (0, 0) else (0, 0)
section
variable {w w' : World} {g mb : Nat} {vr : Value} {S : Nat → Option Pos} {m : Hm}
/-- The end of At, where nothing is told. -/
theorem two_zero {W w : World} {b : Nat} (hB : Below w.heap.size w W) (hb : w.heap.size ≤ b) (hx : W.heap[b]? = some (.cells #[.int .i64 0, .int .i64 0] 36 (0, 0))) (x y : Int) :
    ((W.setCell ⟨b, 0, none⟩ (.int .i64 x)).setCell ⟨b, 1, none⟩ (.int .i64 y)).heap[b]? = some (.cells #[.int .i64 x, .int .i64 y] 36 (0, 0)) ∧ Below w.heap.size w ((W.setCell ⟨b, 0, none⟩ (.int .i64 x)).setCell ⟨b, 1, none⟩ (.int .i64 y)) :=
  ⟨two_row W b _ _ _ _ _ hx, (hB.setCell hb _).setCell hb _⟩
set_option maxHeartbeats 3200000 in
theorem Hp.atI (h : Hp w g vr mb S m) (hh : Here m.L) (K N : Int) (h0 : -9223372036854775808 ≤ N) (h1 : N ≤ 9223372036854775807) (i : Int) :
    Calls Try.prog 65 #[.pointer (some ⟨g, 0, none⟩), .agg #[.int .i64 K, .int .i64 N], .int .i64 i] w fun e w' => e = .returned (.tuple #[valV (atV m.L (K, N) i), .int .i64 (atE m.L (K, N) i)]) ∧ Below w.heap.size w w' := by
  have HB0 : Hid (Below w.heap.size w ((w.alloc (.cells #[.int .i64 K, .int .i64 N] 36)).alloc (.cells #[.int .i64 0, .int .i64 0] 36))) := Lib.hid (((Below.refl _ _).alloc (Nat.le_refl _) _).alloc (by simp) _)
  have hx2 : ((w.alloc (.cells #[.int .i64 K, .int .i64 N] 36)).alloc (.cells #[.int .i64 0, .int .i64 0] 36)).heap[w.heap.size + 1]? = some (.cells #[.int .i64 0, .int .i64 0] 36 (0, 0)) := heap_alloc2_new w _ _
  have HX2 := Lib.hid hx2
  have hsz : ((w.alloc (.cells #[.int .i64 K, .int .i64 N] 36)).alloc (.cells #[.int .i64 0, .int .i64 0] 36)).heap.size = w.heap.size + 2 := by simp
  have HSZ := Lib.hid hsz
  have HC := h.thereH hh K N h0 h1
  clear hx2 hsz
  cases hv : hasP m.L (K, N) with
  | false =>
    have HE : Hid (atE m.L (K, N) i = 5) := Lib.hid (if_pos hv)
    have HV : Hid (atV m.L (K, N) i = (0, 0)) := Lib.hid (if_neg (by rw [HE.out]; decide))
    rw [HE.out, HV.out]
    rw [cellV_nil _ _ _ hv, hasE_none hv] at HC
    clear h hv
    go_enter Try.func65, Try.ntmps65
    go_upto_region 2 with (go_at_call 41; with_reducible refine (HC.out _ HB0.out).mono ?_; rintro e w1 ⟨rfl, hb⟩)
    have hx3 := (hb.block (w.heap.size + 1) (by have := HSZ.out; omega)).trans HX2.out
    have HB1 := Lib.hid (HB0.out.trans (hb.mono (by have := HSZ.out; omega)))
    have y0 := cell_of_row _ _ 0 _ _ _ hx3
    have y1 := cell_of_row _ _ 1 _ _ _ hx3
    have f0 := frozen_of_row _ _ 0 _ _ hx3
    have f1 := frozen_of_row _ _ 1 _ _ hx3
    simp at y0 y1
    obtain ⟨hF, hBF⟩ := two_zero HB1.out (by omega) hx3 0 0
    have HBF := Lib.hid hBF
    clear hBF hb
    go_wp2_with fail
    generalize (w1.setCell ⟨w.heap.size + 1, 0, none⟩ (.int .i64 0)).setCell ⟨w.heap.size + 1, 1, none⟩ (.int .i64 0) = V at *
    have v0 := cell_of_row _ _ 0 _ _ _ hF
    have v1 := cell_of_row _ _ 1 _ _ _ hF
    simp at v0 v1
    exact bodyPost_ret (v := .tuple #[.agg #[.int .i64 0, .int .i64 0], .int .i64 5]) (by simp [results, Try.results65, go_sem, v0, v1]) rfl ⟨rfl, HBF.out⟩
  | true =>
    obtain ⟨_, _, c, hc⟩ := hasP_iff.1 hv
    obtain ⟨x, hx, hca, e⟩ := h.cellV_some hv hc
    rw [e, hasE_some hv] at HC
    have c4 := hca.c1
    have hvs := hca.vs
    obtain ⟨q, d, e1⟩ := hca.vform
    rw [e1] at c4 hvs
    have HVL := Lib.hid (Vls.own hvs)
    have HA : Hid ((obAt m.L (K, N)).vs = c.o.vs) := Lib.hid (by rw [obAt_some hv hc])
    obtain ⟨n, HN⟩ : ∃ n, Hid (c.o.vs.length = n) := ⟨_, Lib.hid rfl⟩
    rw [HN.out] at c4 HVL
    have HY : Hid (∀ w1, Below w.heap.size w w1 → w1.cell? ⟨x.1, 1, none⟩ = some (.slice q n d)) := Lib.hid fun w1 hb => (hb.cell (World.block_lt_of_cell? w _ c4)).trans c4
    by_cases hr : i < 0 ∨ (n : Int) ≤ i
    · have HE : Hid (atE m.L (K, N) i = 7) := Lib.hid (by unfold atE; rw [if_neg (by rw [hv]; decide), HA.out, HN.out, if_pos hr])
      have HV : Hid (atV m.L (K, N) i = (0, 0)) := Lib.hid (if_neg (by rw [HE.out]; decide))
      rw [HE.out, HV.out]
      clear h hv e hca hc e1 hvs c4
      have fin : ∀ (d1 : decide (i < 0) = true ∨ (decide (i < 0) = false ∧ decide ((n : Int) ≤ i) = true)), Calls Try.prog 65 #[.pointer (some ⟨g, 0, none⟩), .agg #[.int .i64 K, .int .i64 N], .int .i64 i] w fun e w' => e = .returned (.tuple #[valV (0, 0), .int .i64 7]) ∧ Below w.heap.size w w' := by
        intro d1
        rcases d1 with d1 | ⟨d1, d2⟩
        · go_enter Try.func65, Try.ntmps65
          go_upto_region 2 with (go_at_call 41; with_reducible refine (HC.out _ HB0.out).mono ?_; rintro e w1 ⟨rfl, hb⟩)
          have hx3 := (hb.block (w.heap.size + 1) (by have := HSZ.out; omega)).trans HX2.out
          have HB1 := Lib.hid (HB0.out.trans (hb.mono (by have := HSZ.out; omega)))
          have y0 := cell_of_row _ _ 0 _ _ _ hx3
          have y1 := cell_of_row _ _ 1 _ _ _ hx3
          have f0 := frozen_of_row _ _ 0 _ _ hx3
          have f1 := frozen_of_row _ _ 1 _ _ hx3
          simp at y0 y1
          obtain ⟨hF, hBF⟩ := two_zero HB1.out (by omega) hx3 0 0
          have HBF := Lib.hid hBF
          clear hBF hb
          go_wp2_with fail
          generalize (w1.setCell ⟨w.heap.size + 1, 0, none⟩ (.int .i64 0)).setCell ⟨w.heap.size + 1, 1, none⟩ (.int .i64 0) = V at *
          have v0 := cell_of_row _ _ 0 _ _ _ hF
          have v1 := cell_of_row _ _ 1 _ _ _ hF
          simp at v0 v1
          exact bodyPost_ret (v := .tuple #[.agg #[.int .i64 0, .int .i64 0], .int .i64 7]) (by simp [results, Try.results65, go_sem, v0, v1]) rfl ⟨rfl, HBF.out⟩
        · go_enter Try.func65, Try.ntmps65
          go_upto_region 2 with (go_at_call 41; with_reducible refine (HC.out _ HB0.out).mono ?_; rintro e w1 ⟨rfl, hb⟩)
          have hx3 := (hb.block (w.heap.size + 1) (by have := HSZ.out; omega)).trans HX2.out
          have HB1 := Lib.hid (HB0.out.trans (hb.mono (by have := HSZ.out; omega)))
          have y0 := cell_of_row _ _ 0 _ _ _ hx3
          have y1 := cell_of_row _ _ 1 _ _ _ hx3
          have y4 := HY.out _ HB1.out
          have f0 := frozen_of_row _ _ 0 _ _ hx3
          have f1 := frozen_of_row _ _ 1 _ _ hx3
          simp at y0 y1
          obtain ⟨hF, hBF⟩ := two_zero HB1.out (by omega) hx3 0 0
          have HBF := Lib.hid hBF
          clear hBF hb
          go_wp2_with fail
          generalize (w1.setCell ⟨w.heap.size + 1, 0, none⟩ (.int .i64 0)).setCell ⟨w.heap.size + 1, 1, none⟩ (.int .i64 0) = V at *
          have v0 := cell_of_row _ _ 0 _ _ _ hF
          have v1 := cell_of_row _ _ 1 _ _ _ hF
          simp at v0 v1
          exact bodyPost_ret (v := .tuple #[.agg #[.int .i64 0, .int .i64 0], .int .i64 7]) (by simp [results, Try.results65, go_sem, v0, v1]) rfl ⟨rfl, HBF.out⟩
      apply fin
      by_cases h2 : i < 0
      · exact .inl (decide_eq_true h2)
      · exact .inr ⟨decide_eq_false h2, decide_eq_true (hr.resolve_left h2)⟩
    · have HE : Hid (atE m.L (K, N) i = 0) := Lib.hid (by unfold atE; rw [if_neg (by rw [hv]; decide), HA.out, HN.out, if_neg hr])
      obtain ⟨j, rfl⟩ : ∃ j : Nat, i = (j : Int) := ⟨i.toNat, by omega⟩
      have hj : j < n := by omega
      have HV : Hid (atV m.L (K, N) (j : Int) = c.o.vs.getD j (0, 0)) := Lib.hid (by unfold atV; rw [if_pos HE.out, HA.out, Int.toNat_natCast])
      rw [HE.out, HV.out]
      have d1 : decide ((j : Int) < 0) = false := by simp
      have d2 : decide ((n : Int) ≤ (j : Int)) = false := by simp; omega
      have d3 : decide (n ≤ j) = false := by simp; omega
      have hjn : (j : Int) < (n : Int) := by omega
      obtain ⟨b, o', eq, hcell⟩ := HVL.out.2 (by omega)
      subst eq
      obtain ⟨a1, a2⟩ := hcell j hj
      have HA1 := Lib.hid a1
      have HA2 := Lib.hid a2
      clear h hv e hca hc e1 hvs c4 hr hcell a1 a2 HE HV HA HVL
      generalize c.o.vs.getD j (0, 0) = y at *
      obtain ⟨yk, yn⟩ := y
      go_enter Try.func65, Try.ntmps65
      go_upto_region 2 with (go_at_call 41; with_reducible refine (HC.out _ HB0.out).mono ?_; rintro e w1 ⟨rfl, hb⟩)
      have hx3 := (hb.block (w.heap.size + 1) (by have := HSZ.out; omega)).trans HX2.out
      have HB1 := Lib.hid (HB0.out.trans (hb.mono (by have := HSZ.out; omega)))
      have y0 := cell_of_row _ _ 0 _ _ _ hx3
      have y1 := cell_of_row _ _ 1 _ _ _ hx3
      have y4 := HY.out _ HB1.out
      have z1 := (HB1.out.cell (World.block_lt_of_cell? w _ HA1.out)).trans HA1.out
      have z2 := (HB1.out.cell (World.block_lt_of_cell? w _ HA2.out)).trans HA2.out
      have f0 := frozen_of_row _ _ 0 _ _ hx3
      have f1 := frozen_of_row _ _ 1 _ _ hx3
      simp at y0 y1 z1 z2
      obtain ⟨hF, hBF⟩ := two_zero HB1.out (by omega) hx3 yk yn
      have HBF := Lib.hid hBF
      clear hBF hb
      go_wp2_with fail
      generalize (w1.setCell ⟨w.heap.size + 1, 0, none⟩ (.int .i64 yk)).setCell ⟨w.heap.size + 1, 1, none⟩ (.int .i64 yn) = V at *
      have v0 := cell_of_row _ _ 0 _ _ _ hF
      have v1 := cell_of_row _ _ 1 _ _ _ hF
      simp at v0 v1
      exact bodyPost_ret (v := .tuple #[.agg #[.int .i64 yk, .int .i64 yn], .int .i64 0]) (by simp [results, Try.results65, go_sem, v0, v1]) rfl ⟨rfl, HBF.out⟩
end
end Go.Proofs.Ytekmboolfjicbaa
