/- An object's byte set. -/
import Derived.Test.YthmajccajmnfcaaHSet
set_option maxRecDepth 20000
set_option linter.unusedSimpArgs false
namespace Go.Proofs.Ythmajccajmnfcaa
open Go.RowKit

section
variable {w w' : World} {g mb : Nat} {vr : Value} {S : Nat → Option Pos} {m : Hm}
set_option maxHeartbeats 3200000 in
theorem Hp.setB (h : Hp w g vr mb S m) (hh : Here m.L) (K N : Int) (h0 : -9223372036854775808 ≤ N) (h1 : N ≤ 9223372036854775807) (i : Int) (y : Nat) (hy : y < 256) :
    Calls Try.prog 11 #[.pointer (some ⟨g, 0, none⟩), .agg #[.int .i64 K, .int .i64 N], .int .i64 i, .int .u8 (y : Int)] w fun e w' => e = .returned (.int .i64 (setBE m.L (K, N) i y)) ∧ WentH (footH g vr mb S) g (setBM m (K, N) i y) w w' := by
  have HP := Lib.hid h
  have HB0 : Hid (Below w.heap.size w (w.alloc (.cells #[.int .i64 K, .int .i64 N] 38))) := Lib.hid ((Below.refl _ _).alloc (Nat.le_refl _) _)
  have HC := h.thereH hh K N h0 h1
  have HYY := Lib.hid hy
  cases hv : hasP m.L (K, N) with
  | false =>
    have HE : Hid (setBE m.L (K, N) i y = 5) := Lib.hid (if_pos hv)
    have HM : Hid (setBM m (K, N) i y = m) := Lib.hid (if_neg (by rw [HE.out]; decide))
    rw [HE.out, HM.out]
    rw [cellV_nil _ _ _ hv, hasE_none hv] at HC
    clear h hv
    go_enter Try.func11, Try.ntmps11
    go_wp2_with (go_at_call 37; with_reducible refine (HC.out _ HB0.out).mono ?_; rintro e w1 ⟨rfl, hb⟩)
    go_ret
    exact ⟨rfl, WentH.below HP.out.hep (HB0.out.trans (hb.mono HB0.out.size))⟩
  | true =>
    obtain ⟨_, _, c, hc⟩ := hasP_iff.1 hv
    obtain ⟨x, hx, hca, e⟩ := h.cellV_some hv hc
    rw [e, hasE_some hv] at HC
    have hc2 : clAt m.L N.toNat = some c := hc
    have c4 := hca.c2
    have c0 := hca.c0
    have hvs := hca.bs
    obtain ⟨q, d, e1⟩ := hca.bform
    rw [e1] at c4 hvs
    have HA : Hid ((obAt m.L (K, N)).bs = c.o.bs) := Lib.hid (by rw [obAt_some hv hc])
    have HAK : Hid ((obAt m.L (K, N)).k = c.o.k) := Lib.hid (by rw [obAt_some hv hc])
    obtain ⟨n, HN⟩ : ∃ n, Hid (c.o.bs.length = n) := ⟨_, Lib.hid rfl⟩
    rw [HN.out] at c4 hvs
    obtain ⟨kk, HKK⟩ : ∃ kk, Hid (c.o.k = kk) := ⟨_, Lib.hid rfl⟩
    rw [HKK.out] at c0 HAK
    have HY : Hid (∀ w1, Below w.heap.size w w1 → w1.cell? ⟨x.1, 2, none⟩ = some (.slice q n d) ∧ w1.cell? ⟨x.1, 0, none⟩ = some (.int .i64 kk)) := Lib.hid fun w1 hb => ⟨(hb.cell (World.block_lt_of_cell? w _ c4)).trans c4, (hb.cell (World.block_lt_of_cell? w _ c0)).trans c0⟩
    by_cases hr : i < 0 ∨ (n : Int) ≤ i
    · have HE : Hid (setBE m.L (K, N) i y = 7) := Lib.hid (by unfold setBE; rw [if_neg (by rw [hv]; decide), HA.out, HN.out, if_pos hr])
      have HM : Hid (setBM m (K, N) i y = m) := Lib.hid (if_neg (by rw [HE.out]; decide))
      rw [HE.out, HM.out]
      clear h hv e hca hc e1 hvs c4 c0
      by_cases h2 : i < 0
      · have d1 : decide (i < 0) = true := decide_eq_true h2
        go_enter Try.func11, Try.ntmps11
        go_wp2_with (go_at_call 37; with_reducible refine (HC.out _ HB0.out).mono ?_; rintro e w1 ⟨rfl, hb⟩)
        go_ret
        exact ⟨rfl, WentH.below HP.out.hep (HB0.out.trans (hb.mono HB0.out.size))⟩
      · have d1 : decide (i < 0) = false := decide_eq_false h2
        have d2 : decide ((n : Int) ≤ i) = true := decide_eq_true (hr.resolve_left h2)
        go_enter Try.func11, Try.ntmps11
        go_wp2_with (go_at_call 37; with_reducible refine (HC.out _ HB0.out).mono ?_; rintro e w1 ⟨rfl, hb⟩; have y4 := (HY.out _ (HB0.out.trans (hb.mono HB0.out.size))).1)
        go_ret
        exact ⟨rfl, WentH.below HP.out.hep (HB0.out.trans (hb.mono HB0.out.size))⟩
    · obtain ⟨j, rfl⟩ : ∃ j : Nat, i = (j : Int) := ⟨i.toNat, by omega⟩
      have hj : j < n := by omega
      have d1 : decide ((j : Int) < 0) = false := by simp
      have d2 : decide ((n : Int) ≤ (j : Int)) = false := by simp; omega
      have d3 : decide (n ≤ j) = false := by simp; omega
      have hjn : (j : Int) < (n : Int) := by omega
      by_cases hmv : kk = 2 ∧ 127 < y
      · have HE : Hid (setBE m.L (K, N) (j : Int) y = 1) := Lib.hid (by unfold setBE; rw [if_neg (by rw [hv]; decide), HA.out, HN.out, if_neg hr, HAK.out, if_pos hmv])
        have HM : Hid (setBM m (K, N) (j : Int) y = m) := Lib.hid (if_neg (by rw [HE.out]; decide))
        rw [HE.out, HM.out]
        obtain ⟨rfl, hm2⟩ := hmv
        have d4 : decide ((127 : Int) < (y : Int)) = true := by simp; omega
        have d5 : decide (127 < y) = true := decide_eq_true hm2
        clear h hv e hca hc e1 hvs c4 c0 hr hm2
        go_enter Try.func11, Try.ntmps11
        go_wp2_with (go_at_call 37; with_reducible refine (HC.out _ HB0.out).mono ?_; rintro e w1 ⟨rfl, hb⟩; obtain ⟨y4, y5⟩ := HY.out _ (HB0.out.trans (hb.mono HB0.out.size)))
        go_ret
        exact ⟨rfl, WentH.below HP.out.hep (HB0.out.trans (hb.mono HB0.out.size))⟩
      · have HE : Hid (setBE m.L (K, N) (j : Int) y = 0) := Lib.hid (by unfold setBE; rw [if_neg (by rw [hv]; decide), HA.out, HN.out, if_neg hr, HAK.out, if_neg hmv])
        have HM : Hid (setBM m (K, N) (j : Int) y = m.set N.toNat (setBC c (j : Int) y)) := Lib.hid (by unfold setBM; rw [if_pos HE.out, show ((K, N) : Int × Int).2.toNat = N.toNat from rfl, hc2])
        rw [HE.out, HM.out]
        obtain ⟨b, dd, eq⟩ := own_some hvs (by omega)
        cases eq
        have hbx : x.2.2.ownBlock = some b := by rw [e1]; rfl
        have hne := hca.ne
        have nbx : x.1 ≠ b := fun e2 => hne.2.1 (by rw [hbx, e2])
        have HXX := Lib.hid hx
        have HC2 := Lib.hid hc2
        have HBX := Lib.hid hbx
        have HCA := Lib.hid hca
        have HJN : Hid (j < c.o.bs.length) := Lib.hid (by rw [HN.out]; exact hj)
        have HFIN : Hid (∀ w2, Below w.heap.size w w2 → WentH (footH g vr mb S) g (m.set N.toNat (setBC c (j : Int) y)) w ((w2.setCell ⟨b, j, none⟩ (.int .u8 (y : Int))).setCell ⟨x.1, 5, none⟩ (.bool true))) := Lib.hid (by
          intro w2 hb2
          have hp2 := HP.out.below hb2
          have hc3 := (HCA.out.below hb2).setB HJN.out y HYY.out HBX.out
          have hc4 := hc3.set (j := 5) (v := .bool true) (c' := setBC c (j : Int) y) (by unfold setBC; rw [Int.toNat_natCast]) (by unfold setBC; rw [Int.toNat_natCast]; rfl)
          have hfx : footH g vr mb S x.1 := .inr (.inr (.inr ⟨_, x, HXX.out, .inl rfl⟩))
          have hfb : footH g vr mb S b := .inr (.inr (.inr ⟨_, x, HXX.out, .inr (.inr HBX.out)⟩))
          have hch : Chp (footH g vr mb S) (footH g vr mb S) w ((w2.setCell ⟨b, j, none⟩ (.int .u8 (y : Int))).setCell ⟨x.1, 5, none⟩ (.bool true)) := ((Chp.of_below hb2).trans (Chp.setCell hfb _ _)).trans (Chp.setCell hfx _ _)
          have hfin := hp2.setCl (w' := (w2.setCell ⟨b, j, none⟩ (.int .u8 (y : Int))).setCell ⟨x.1, 5, none⟩ (.bool true)) HXX.out HC2.out (c := setBC c (j : Int) y) rfl (fun k _ hk => by
            have n1 : k ≠ x.1 := fun e2 => hk (.inl e2)
            have n2 : k ≠ b := fun e2 => hk (.inr (.inr (by rw [e2]; exact HBX.out)))
            exact (heap_setCell_other _ _ _ _ n1).trans (heap_setCell_other _ _ _ _ n2)) hc4
          exact ⟨_, hfin.hep, hch⟩)
        have HCB : Hid (∀ w1, Below w.heap.size w w1 → w1.cell? ⟨b, j, none⟩ = some (.int .u8 ((c.o.bs.getD j 0 : Nat) : Int)) ∧ w1.frozen? ⟨b, j, none⟩ = false ∧ w1.frozen? ⟨x.1, 5, none⟩ = false ∧ w1.cell? ⟨x.1, 5, none⟩ = some (.bool c.ch)) := Lib.hid fun w1 hb => by
          have hcx := HCA.out.below hb
          have hv2 := own_below hvs hb
          exact ⟨(hv2.cellAt j (by omega)).trans (u8s_get _ _ HJN.out), hv2.frozenAt _, hcx.fz 5, hcx.c5⟩
        have FIN : ∀ (dd : (kk == 2) = false ∨ ((kk == 2) = true ∧ decide ((127 : Int) < (y : Int)) = false ∧ decide (127 < y) = false)), Calls Try.prog 11 #[.pointer (some ⟨g, 0, none⟩), .agg #[.int .i64 K, .int .i64 N], .int .i64 (j : Int), .int .u8 (y : Int)] w fun e w' => e = .returned (.int .i64 0) ∧ WentH (footH g vr mb S) g (m.set N.toNat (setBC c (j : Int) y)) w w' := by
          clear h hv e hca hc hc2 hx e1 hvs c4 c0 hr hmv hbx hne HE HM HA HAK hy
          generalize c.o.bs.getD j 0 = u1 at *
          generalize c.ch = u3 at *
          clear HP HKK HYY HN HBX HCA HXX HC2 HJN
          rintro (d4 | ⟨d4, d5, d6⟩)
          · go_enter Try.func11, Try.ntmps11
            go_upto_region 8 with (go_at_call 37; with_reducible refine (HC.out _ HB0.out).mono ?_; rintro e w1 ⟨rfl, hb⟩; have HB1 := Lib.hid (HB0.out.trans (hb.mono HB0.out.size)); obtain ⟨y4, y5⟩ := HY.out _ HB1.out)
            obtain ⟨t0, t1, t2, t3⟩ := HCB.out _ HB1.out
            have HF := Lib.hid (HFIN.out _ HB1.out)
            clear hb HCB HFIN HC
            go_wp2_with fail
            go_ret
            exact ⟨rfl, HF.out⟩
          · go_enter Try.func11, Try.ntmps11
            go_upto_region 8 with (go_at_call 37; with_reducible refine (HC.out _ HB0.out).mono ?_; rintro e w1 ⟨rfl, hb⟩; have HB1 := Lib.hid (HB0.out.trans (hb.mono HB0.out.size)); obtain ⟨y4, y5⟩ := HY.out _ HB1.out)
            obtain ⟨t0, t1, t2, t3⟩ := HCB.out _ HB1.out
            have HF := Lib.hid (HFIN.out _ HB1.out)
            clear hb HCB HFIN HC
            go_wp2_with fail
            go_ret
            exact ⟨rfl, HF.out⟩
        apply FIN
        by_cases hk2 : kk = 2
        · have hy2 : ¬ 127 < y := fun h2 => hmv ⟨hk2, h2⟩
          exact .inr ⟨by simp [hk2], by simp; omega, by simp; omega⟩
        · exact .inl (by simp [hk2])
end
end Go.Proofs.Ythmajccajmnfcaa
