/- An object's value set; its byte set. -/
import Derived.Test.YtekmboolfjicbaaHObj
set_option maxRecDepth 20000
set_option linter.unusedSimpArgs false
namespace Go.Proofs.Ytekmboolfjicbaa
open Go.RowKit

def setE (L : Pls) (v : Int × Int) (i : Int) (y : Int × Int) : Int := if hasP L v = false then 5 else if i < 0 ∨ ((obAt L v).vs.length : Int) ≤ i then 7 else if mayV L y = false then 1 else 0
def setC (c : Cl) (i : Int) (y : Int × Int) : Cl := { c with o := { c.o with vs := c.o.vs.set i.toNat y }, ch := true }
def setM (m : Hm) (v : Int × Int) (i : Int) (y : Int × Int) : Hm := if setE m.L v i y = 0 then (match clAt m.L v.2.toNat with | some c => m.set v.2.toNat (setC c i y) | none => m) else m
def setBE (L : Pls) (v : Int × Int) (i : Int) (y : Nat) : Int := if hasP L v = false then 5 else if i < 0 ∨ ((obAt L v).bs.length : Int) ≤ i then 7 else if (obAt L v).k = 2 ∧ 127 < y then 1 else 0
def setBC (c : Cl) (i : Int) (y : Nat) : Cl := { c with o := { c.o with bs := c.o.bs.set i.toNat y }, ch := true }
def setBM (m : Hm) (v : Int × Int) (i : Int) (y : Nat) : Hm := if setBE m.L v i y = 0 then (match clAt m.L v.2.toNat with | some c => m.set v.2.toNat (setBC c i y) | none => m) else m
section
variable {w w' : World} {g mb : Nat} {vr : Value} {S : Nat → Option Pos} {m : Hm}
set_option maxHeartbeats 3200000 in
theorem Hp.setI (h : Hp w g vr mb S m) (hh : Here m.L) (K N : Int) (h0 : -9223372036854775808 ≤ N) (h1 : N ≤ 9223372036854775807) (i : Int) (yk yn : Int) (hy : I64 yn) :
    Calls Try.prog 22 #[.pointer (some ⟨g, 0, none⟩), .agg #[.int .i64 K, .int .i64 N], .int .i64 i, .agg #[.int .i64 yk, .int .i64 yn]] w fun e w' => e = .returned (.int .i64 (setE m.L (K, N) i (yk, yn))) ∧ WentH (footH g vr mb S) g (setM m (K, N) i (yk, yn)) w w' := by
  have HP := Lib.hid h
  have HB0 : Hid (Below w.heap.size w ((w.alloc (.cells #[.int .i64 K, .int .i64 N] 36)).alloc (.cells #[.int .i64 yk, .int .i64 yn] 36))) := Lib.hid (((Below.refl _ _).alloc (Nat.le_refl _) _).alloc (by simp) _)
  have hx2 : ((w.alloc (.cells #[.int .i64 K, .int .i64 N] 36)).alloc (.cells #[.int .i64 yk, .int .i64 yn] 36)).heap[w.heap.size + 1]? = some (.cells #[.int .i64 yk, .int .i64 yn] 36 (0, 0)) := heap_alloc2_new w _ _
  have HX2 := Lib.hid hx2
  have hsz : ((w.alloc (.cells #[.int .i64 K, .int .i64 N] 36)).alloc (.cells #[.int .i64 yk, .int .i64 yn] 36)).heap.size = w.heap.size + 2 := by simp
  have HSZ := Lib.hid hsz
  have HC := h.thereH hh K N h0 h1
  have HMV : Hid (∀ w1, Below w.heap.size w w1 → Calls Try.prog 42 #[.pointer (some ⟨g, 0, none⟩), .agg #[.int .i64 yk, .int .i64 yn]] w1 fun e w' => e = .returned (.bool (mayV m.L (yk, yn))) ∧ Below w1.heap.size w1 w') := Lib.hid fun _ hb => (h.below hb).mayVal yk yn hy.1 hy.2
  clear hx2 hsz hy
  cases hv : hasP m.L (K, N) with
  | false =>
    have HE : Hid (setE m.L (K, N) i (yk, yn) = 5) := Lib.hid (if_pos hv)
    have HM : Hid (setM m (K, N) i (yk, yn) = m) := Lib.hid (if_neg (by rw [HE.out]; decide))
    rw [HE.out, HM.out]
    rw [cellV_nil _ _ _ hv, hasE_none hv] at HC
    clear h hv
    go_enter Try.func22, Try.ntmps22
    go_wp2_with (go_at_call 41; with_reducible refine (HC.out _ HB0.out).mono ?_; rintro e w1 ⟨rfl, hb⟩)
    go_ret
    exact ⟨rfl, WentH.below HP.out.hep (HB0.out.trans (hb.mono HB0.out.size))⟩
  | true =>
    obtain ⟨_, _, c, hc⟩ := hasP_iff.1 hv
    obtain ⟨x, hx, hca, e⟩ := h.cellV_some hv hc
    rw [e, hasE_some hv] at HC
    have hc2 : clAt m.L N.toNat = some c := hc
    have c4 := hca.c1
    have hvs := hca.vs
    obtain ⟨q, d, e1⟩ := hca.vform
    rw [e1] at c4 hvs
    have HA : Hid ((obAt m.L (K, N)).vs = c.o.vs) := Lib.hid (by rw [obAt_some hv hc])
    obtain ⟨n, HN⟩ : ∃ n, Hid (c.o.vs.length = n) := ⟨_, Lib.hid rfl⟩
    rw [HN.out] at c4 hvs
    have HY : Hid (∀ w1, Below w.heap.size w w1 → w1.cell? ⟨x.1, 1, none⟩ = some (.slice q n d)) := Lib.hid fun w1 hb => (hb.cell (World.block_lt_of_cell? w _ c4)).trans c4
    by_cases hr : i < 0 ∨ (n : Int) ≤ i
    · have HE : Hid (setE m.L (K, N) i (yk, yn) = 7) := Lib.hid (by unfold setE; rw [if_neg (by rw [hv]; decide), HA.out, HN.out, if_pos hr])
      have HM : Hid (setM m (K, N) i (yk, yn) = m) := Lib.hid (if_neg (by rw [HE.out]; decide))
      rw [HE.out, HM.out]
      clear h hv e hca hc e1 hvs c4
      by_cases h2 : i < 0
      · have d1 : decide (i < 0) = true := decide_eq_true h2
        go_enter Try.func22, Try.ntmps22
        go_wp2_with (go_at_call 41; with_reducible refine (HC.out _ HB0.out).mono ?_; rintro e w1 ⟨rfl, hb⟩)
        go_ret
        exact ⟨rfl, WentH.below HP.out.hep (HB0.out.trans (hb.mono HB0.out.size))⟩
      · have d1 : decide (i < 0) = false := decide_eq_false h2
        have d2 : decide ((n : Int) ≤ i) = true := decide_eq_true (hr.resolve_left h2)
        go_enter Try.func22, Try.ntmps22
        go_wp2_with (go_at_call 41; with_reducible refine (HC.out _ HB0.out).mono ?_; rintro e w1 ⟨rfl, hb⟩; have y4 := HY.out _ (HB0.out.trans (hb.mono HB0.out.size)))
        go_ret
        exact ⟨rfl, WentH.below HP.out.hep (HB0.out.trans (hb.mono HB0.out.size))⟩
    · obtain ⟨j, rfl⟩ : ∃ j : Nat, i = (j : Int) := ⟨i.toNat, by omega⟩
      have hj : j < n := by omega
      have d1 : decide ((j : Int) < 0) = false := by simp
      have d2 : decide ((n : Int) ≤ (j : Int)) = false := by simp; omega
      have d3 : decide (n ≤ j) = false := by simp; omega
      have hjn : (j : Int) < (n : Int) := by omega
      cases hmv : mayV m.L (yk, yn) with
      | false =>
        have HE : Hid (setE m.L (K, N) (j : Int) (yk, yn) = 1) := Lib.hid (by unfold setE; rw [if_neg (by rw [hv]; decide), HA.out, HN.out, if_neg hr, if_pos hmv])
        have HM : Hid (setM m (K, N) (j : Int) (yk, yn) = m) := Lib.hid (if_neg (by rw [HE.out]; decide))
        rw [HE.out, HM.out]
        rw [hmv] at HMV
        clear h hv e hca hc e1 hvs c4 hr hmv
        go_enter Try.func22, Try.ntmps22
        go_wp2_with (first
          | (go_at_call 41; with_reducible refine (HC.out _ HB0.out).mono ?_; rintro e w1 ⟨rfl, hb⟩; have HB1 := Lib.hid (HB0.out.trans (hb.mono HB0.out.size)); have y4 := HY.out _ HB1.out; have hx3 := (hb.block (w.heap.size + 1) (by have := HSZ.out; omega)).trans HX2.out; have y0 := cell_of_row _ _ 0 _ _ _ hx3; have y1 := cell_of_row _ _ 1 _ _ _ hx3; simp at y0 y1; clear hb hx3)
          | (go_at_call 42; with_reducible refine (HMV.out _ HB1.out).mono ?_; rintro e w2 ⟨rfl, hb⟩))
        go_ret
        exact ⟨rfl, WentH.below HP.out.hep (HB1.out.trans (hb.mono HB1.out.size))⟩
      | true =>
        have HE : Hid (setE m.L (K, N) (j : Int) (yk, yn) = 0) := Lib.hid (by unfold setE; rw [if_neg (by rw [hv]; decide), HA.out, HN.out, if_neg hr, if_neg (by rw [hmv]; decide)])
        have HM : Hid (setM m (K, N) (j : Int) (yk, yn) = m.set N.toNat (setC c (j : Int) (yk, yn))) := Lib.hid (by unfold setM; rw [if_pos HE.out, show ((K, N) : Int × Int).2.toNat = N.toNat from rfl, hc2])
        rw [HE.out, HM.out]
        rw [hmv] at HMV
        obtain ⟨b, dd, eq⟩ := own_some hvs (by omega)
        cases eq
        have hbx : x.2.1.ownBlock = some b := by rw [e1]; rfl
        have hne := hca.ne
        have nbx : x.1 ≠ b := fun e2 => hne.1 (by rw [hbx, e2])
        have HNB := Lib.hid nbx
        have HXX := Lib.hid hx
        have HC2 := Lib.hid hc2
        have HBX := Lib.hid hbx
        have HCA := Lib.hid hca
        have HJN : Hid (j < c.o.vs.length) := Lib.hid (by rw [HN.out]; exact hj)
        have HFIN : Hid (∀ w2, Below w.heap.size w w2 → WentH (footH g vr mb S) g (m.set N.toNat (setC c (j : Int) (yk, yn))) w (((w2.setCell ⟨b, j * 2, none⟩ (.int .i64 yk)).setCell ⟨b, j * 2 + 1, none⟩ (.int .i64 yn)).setCell ⟨x.1, 5, none⟩ (.bool true)).drew) := Lib.hid (by
          intro w2 hb2
          have hp2 := HP.out.below hb2
          have hc3 := (HCA.out.below hb2).setV HJN.out (yk, yn) HBX.out
          have hc4 := hc3.set (j := 5) (v := .bool true) (c' := setC c (j : Int) (yk, yn)) (by unfold setC; rw [Int.toNat_natCast]) (by unfold setC; rw [Int.toNat_natCast]; rfl)
          have hfx : footH g vr mb S x.1 := .inr (.inr (.inr ⟨_, x, HXX.out, .inl rfl⟩))
          have hfb : footH g vr mb S b := .inr (.inr (.inr ⟨_, x, HXX.out, .inr (.inl HBX.out)⟩))
          have hch : Chp (footH g vr mb S) (footH g vr mb S) w (((w2.setCell ⟨b, j * 2, none⟩ (.int .i64 yk)).setCell ⟨b, j * 2 + 1, none⟩ (.int .i64 yn)).setCell ⟨x.1, 5, none⟩ (.bool true)) := (((Chp.of_below hb2).trans (Chp.setCell hfb _ _)).trans (Chp.setCell hfb _ _)).trans (Chp.setCell hfx _ _)
          have hfin := hp2.setCl (w' := ((w2.setCell ⟨b, j * 2, none⟩ (.int .i64 yk)).setCell ⟨b, j * 2 + 1, none⟩ (.int .i64 yn)).setCell ⟨x.1, 5, none⟩ (.bool true)) HXX.out HC2.out (c := setC c (j : Int) (yk, yn)) rfl (fun k _ hk => by
            have n1 : k ≠ x.1 := fun e2 => hk (.inl e2)
            have n2 : k ≠ b := fun e2 => hk (.inr (.inl (by rw [e2]; exact HBX.out)))
            exact (heap_setCell_other _ _ _ _ n1).trans ((heap_setCell_other _ _ _ _ n2).trans (heap_setCell_other _ _ _ _ n2))) hc4
          exact ⟨_, (hfin.below (Below.refl _ _).drew).hep, hch.drew⟩)
        have HCB : Hid (∀ w1, Below w.heap.size w w1 → w1.cell? ⟨b, j * 2, none⟩ = some (.int .i64 (c.o.vs.getD j (0, 0)).1) ∧ w1.cell? ⟨b, j * 2 + 1, none⟩ = some (.int .i64 (c.o.vs.getD j (0, 0)).2) ∧ w1.frozen? ⟨b, j * 2, none⟩ = false ∧ w1.frozen? ⟨b, j * 2 + 1, none⟩ = false ∧ w1.frozen? ⟨x.1, 5, none⟩ = false ∧ w1.cell? ⟨x.1, 5, none⟩ = some (.bool c.ch)) := Lib.hid fun w1 hb => by
          have hcx := HCA.out.below hb
          have hv2 := own_below hvs hb
          obtain ⟨g0, g1⟩ := flatV_get c.o.vs j HJN.out
          exact ⟨(hv2.cellAt (j * 2) (by omega)).trans g0, (hv2.cellAt (j * 2 + 1) (by omega)).trans g1, hv2.frozenAt _, hv2.frozenAt _, hcx.fz 5, hcx.c5⟩
        have nxw : ∀ k2, k2 < 2 → w.heap.size + k2 ≠ b ∧ w.heap.size + k2 ≠ x.1 := fun k2 _ => by
          have h2 := hca.lt x.1 (.inl rfl)
          have h3 := hca.lt b (.inr (.inl hbx))
          omega
        have nw1 := (nxw 1 (by omega)).1
        have nw2 := (nxw 1 (by omega)).2
        clear h hv e hca hc hc2 hx e1 hvs c4 hr hmv hbx hne HE HM HA nxw
        generalize (c.o.vs.getD j (0, 0)).1 = u1 at *
        generalize (c.o.vs.getD j (0, 0)).2 = u2 at *
        generalize c.ch = u3 at *
        go_enter Try.func22, Try.ntmps22
        go_upto_region 8 with (first
          | (go_at_call 41; with_reducible refine (HC.out _ HB0.out).mono ?_; rintro e w1 ⟨rfl, hb⟩; have HB1 := Lib.hid (HB0.out.trans (hb.mono HB0.out.size)); have y4 := HY.out _ HB1.out; have hx3 := (hb.block (w.heap.size + 1) (by have := HSZ.out; omega)).trans HX2.out; have y0 := cell_of_row _ _ 0 _ _ _ hx3; have y1 := cell_of_row _ _ 1 _ _ _ hx3; simp at y0 y1; clear hb)
          | (go_at_call 42; with_reducible refine (HMV.out _ HB1.out).mono ?_; rintro e w2 ⟨rfl, hb⟩))
        have HB2 := Lib.hid (HB1.out.trans (hb.mono HB1.out.size))
        have hx4 := (hb.block _ (lt_of_block hx3)).trans hx3
        have z0 := cell_of_row _ _ 0 _ _ _ hx4
        have z1 := cell_of_row _ _ 1 _ _ _ hx4
        simp at z0 z1
        have z4 := HY.out _ HB2.out
        obtain ⟨t0, t1, t2, t3, t4, t5⟩ := HCB.out _ HB2.out
        have HF := Lib.hid (HFIN.out _ HB2.out)
        clear hb hx3 hx4 y0 y1 y4 HCB HFIN HMV HC
        go_region
        go_wp2_with fail
        go_ret
        exact ⟨rfl, HF.out⟩
end
end Go.Proofs.Ytekmboolfjicbaa
