/- An object added. -/
import Derived.Test.YtekmboolfjicbaaHLay
set_option maxRecDepth 20000
set_option linter.unusedSimpArgs false
namespace Go.Proofs.Ytekmboolfjicbaa
open Go.RowKit

def addE (m : Hm) (o : Ob) : Int := if mayO m.L o = false then 1 else if m.lim ≤ liveN m.L then 8 else 0
def addV (m : Hm) (o : Ob) : Int × Int := if addE m o = 0 then (8, (gapH m.L : Int)) else (0, 0)
def newCl (o : Ob) : Cl := ⟨o, 0, false, true⟩
def addM (m : Hm) (o : Ob) : Hm := if addE m o = 0 then m.lay (newCl o) else m
/-- An object with what else its cell has. -/
theorem two_row (W : World) (g t : Nat) (a0 a1 b0 b1 : Value) (h : W.heap[g]? = some (.cells #[a0, a1] t (0, 0))) :
    ((W.setCell ⟨g, 0, none⟩ b0).setCell ⟨g, 1, none⟩ b1).heap[g]? = some (.cells #[b0, b1] t (0, 0)) :=
  heap_setCell_same _ _ 1 _ _ _ (heap_setCell_same _ _ 0 _ _ _ h)
theorem Cpy.celAt {w w' : World} {o : Ob} {vv vb : Value} (h : Cpy w w' o vv vb) (hd : ∀ x ∈ o.bs, x < 256) (num : Nat) (aw ch : Bool) :
    CelAt (w'.alloc (.cells #[.int .i64 o.k, vv, vb, .int .i64 (num : Int), .bool aw, .bool ch] 101)) (w'.heap.size, vv, vb) ⟨o, num, aw, ch⟩ :=
  ⟨heap_alloc_new _ _, base0 (h.vs.alloc _), base0 (h.bs.alloc _), hd⟩
theorem Cpy.blk {w w' : World} {o : Ob} {vv vb : Value} (h : Cpy w w' o vv vb) : ∀ k, blkP (w'.heap.size, vv, vb) k → w.heap.size ≤ k := by
  rintro k (rfl | e | e)
  · exact h.below.size
  · exact own_ge h.vs e
  · exact own_ge h.bs e
section
variable {w : World} {g mb : Nat} {vr : Value} {S : Nat → Option Pos} {m : Hm}
set_option maxHeartbeats 3200000 in
theorem Hp.add (h : Hp w g vr mb S m) (o : Ob) (q p : Option Addr) (n c d e : Nat) (ho : ObV w q n p d o) (hn : n ≤ 100000) (hd : d ≤ 100000) :
    Calls Try.prog 18 #[.pointer (some ⟨g, 0, none⟩), .agg #[.int .i64 o.k, .slice q n c, .slice p d e]] w fun ex w' => ex = .returned (.tuple #[valV (addV m o), .int .i64 (addE m o)]) ∧ WentH (footH g vr mb S) g (addM m o) w w' := by
  have HP := Lib.hid h
  have HB0 : Hid (Below w.heap.size w ((w.alloc (.cells #[.int .i64 o.k, .slice q n c, .slice p d e] 61)).alloc (.cells #[.int .i64 0, .int .i64 0] 36))) := Lib.hid (((Below.refl _ _).alloc (Nat.le_refl _) _).alloc (by simp) _)
  have hx2 : ((w.alloc (.cells #[.int .i64 o.k, .slice q n c, .slice p d e] 61)).alloc (.cells #[.int .i64 0, .int .i64 0] 36)).heap[w.heap.size + 1]? = some (.cells #[.int .i64 0, .int .i64 0] 36 (0, 0)) := heap_alloc2_new w _ _
  have HX2 := Lib.hid hx2
  have hx1 : ((w.alloc (.cells #[.int .i64 o.k, .slice q n c, .slice p d e] 61)).alloc (.cells #[.int .i64 0, .int .i64 0] 36)).heap[w.heap.size]? = some (.cells #[.int .i64 o.k, .slice q n c, .slice p d e] 61 (0, 0)) := heap_alloc2_old w _ _
  have HX1 := Lib.hid hx1
  have hsz : ((w.alloc (.cells #[.int .i64 o.k, .slice q n c, .slice p d e] 61)).alloc (.cells #[.int .i64 0, .int .i64 0] 36)).heap.size = w.heap.size + 2 := by simp
  have HSZ := Lib.hid hsz
  have HM : Hid (∀ w1, Below w.heap.size w w1 → Calls Try.prog 30 #[.pointer (some ⟨g, 0, none⟩), .agg #[.int .i64 o.k, .slice q n c, .slice p d e]] w1 fun ex w' => ex = .returned (.bool (mayO m.L o)) ∧ Below w1.heap.size w1 w') := Lib.hid fun w1 hb => (h.below hb).mayObj o q p n c d e (ho.below hb)
  have HFU : Hid (∀ w1, Below w.heap.size w w1 → Calls Try.prog 31 #[.pointer (some ⟨g, 0, none⟩)] w1 fun ex w' => ex = .returned (.bool (decide (m.lim ≤ liveN m.L))) ∧ Below w1.heap.size w1 w') := Lib.hid fun w1 hb => (h.below hb).full
  have HCO : Hid (∀ w1, Below w.heap.size w w1 → Calls Try.prog 34 #[.agg #[.int .i64 o.k, .slice q n c, .slice p d e]] w1 fun ex w' => ∃ vv vb, ex = .returned (.agg #[.int .i64 o.k, vv, vb]) ∧ Cpy w1 w' o vv vb) := Lib.hid fun w1 hb => copyOf_any o q p n c d e w1 (ho.vs.below hb) (ho.bs.below hb) hn hd
  have HDG := Lib.hid ho.bs.dig
  have hgg := gapH_le m.L
  have hss := h.short
  cases hm : mayO m.L o with
  | false =>
    have hE : addE m o = 1 := by unfold addE; rw [if_pos hm]
    have HE : Hid (addE m o = 1 ∧ addV m o = (0, 0) ∧ addM m o = m) := Lib.hid ⟨hE, by unfold addV; rw [if_neg (by rw [hE]; decide)], by unfold addM; rw [if_neg (by rw [hE]; decide)]⟩
    rw [HE.out.1, HE.out.2.1, HE.out.2.2]
    rw [hm] at HM
    generalize o.k = k at *
    clear h ho hm hE HFU HCO hx1 hx2 hsz
    go_enter Try.func18, Try.ntmps18
    go_upto_region 1 with fail
    generalize (w.alloc (.cells #[.int .i64 k, .slice q n c, .slice p d e] 61)).alloc (.cells #[.int .i64 0, .int .i64 0] 36) = W at *
    have hsz := HSZ.out
    have z0 := cell_of_row _ _ 0 _ _ _ HX1.out
    have z1 := cell_of_row _ _ 1 _ _ _ HX1.out
    have z2 := cell_of_row _ _ 2 _ _ _ HX1.out
    simp at z0 z1 z2
    go_wp2_with (go_at_call 30; with_reducible refine (HM.out _ HB0.out).mono ?_; rintro ex w2 ⟨rfl, hb2⟩; have hx3 := (hb2.block (w.heap.size + 1) (by omega)).trans HX2.out; have y0 := cell_of_row _ _ 0 _ _ _ hx3; have y1 := cell_of_row _ _ 1 _ _ _ hx3; have f0 := frozen_of_row _ _ 0 _ _ hx3; have f1 := frozen_of_row _ _ 1 _ _ hx3; simp at y0 y1)
    have hF := two_row _ _ _ _ _ (.int .i64 0) (.int .i64 0) hx3
    have HBW : Hid (Below w.heap.size w ((w2.setCell ⟨w.heap.size + 1, 0, none⟩ (.int .i64 0)).setCell ⟨w.heap.size + 1, 1, none⟩ (.int .i64 0))) := Lib.hid (((HB0.out.trans (hb2.mono (by omega))).setCell (by show w.heap.size ≤ w.heap.size + 1; omega) _).setCell (by show w.heap.size ≤ w.heap.size + 1; omega) _)
    generalize (w2.setCell ⟨w.heap.size + 1, 0, none⟩ (.int .i64 0)).setCell ⟨w.heap.size + 1, 1, none⟩ (.int .i64 0) = V at *
    have v0 := cell_of_row _ _ 0 _ _ _ hF
    have v1 := cell_of_row _ _ 1 _ _ _ hF
    simp at v0 v1
    exact bodyPost_ret (v := .tuple #[.agg #[.int .i64 0, .int .i64 0], .int .i64 1]) (by simp [results, Try.results18, go_sem, v0, v1]) rfl ⟨rfl, WentH.below HP.out.hep HBW.out⟩
  | true =>
    rw [hm] at HM
    by_cases hf : m.lim ≤ liveN m.L
    · have hE : addE m o = 8 := by unfold addE; rw [if_neg (by rw [hm]; decide), if_pos hf]
      have HE : Hid (addE m o = 8 ∧ addV m o = (0, 0) ∧ addM m o = m) := Lib.hid ⟨hE, by unfold addV; rw [if_neg (by rw [hE]; decide)], by unfold addM; rw [if_neg (by rw [hE]; decide)]⟩
      rw [HE.out.1, HE.out.2.1, HE.out.2.2]
      rw [show decide (m.lim ≤ liveN m.L) = true from decide_eq_true hf] at HFU
      generalize o.k = k at *
      clear h ho hm hE HCO hx1 hx2 hsz hf
      go_enter Try.func18, Try.ntmps18
      go_upto_region 1 with fail
      generalize (w.alloc (.cells #[.int .i64 k, .slice q n c, .slice p d e] 61)).alloc (.cells #[.int .i64 0, .int .i64 0] 36) = W at *
      have hsz := HSZ.out
      have z0 := cell_of_row _ _ 0 _ _ _ HX1.out
      have z1 := cell_of_row _ _ 1 _ _ _ HX1.out
      have z2 := cell_of_row _ _ 2 _ _ _ HX1.out
      simp at z0 z1 z2
      skip
      go_wp2_with (go_at_call 30; with_reducible refine (HM.out _ HB0.out).mono ?_; rintro ex w2 ⟨rfl, hb2⟩; have HB2 := Lib.hid (HB0.out.trans (hb2.mono (by omega))); have hx3 := (hb2.block (w.heap.size + 1) (by omega)).trans HX2.out)
      refine (HFU.out _ HB2.out).mono ?_
      rintro ex w3 ⟨rfl, hb3⟩
      have hx4 := (hb3.block (w.heap.size + 1) (lt_of_block hx3)).trans hx3
      have y0 := cell_of_row _ _ 0 _ _ _ hx4
      have y1 := cell_of_row _ _ 1 _ _ _ hx4
      have f0 := frozen_of_row _ _ 0 _ _ hx4
      have f1 := frozen_of_row _ _ 1 _ _ hx4
      simp at y0 y1
      have hF := two_row _ _ _ _ _ (.int .i64 0) (.int .i64 0) hx4
      have HBW : Hid (Below w.heap.size w ((w3.setCell ⟨w.heap.size + 1, 0, none⟩ (.int .i64 0)).setCell ⟨w.heap.size + 1, 1, none⟩ (.int .i64 0))) := Lib.hid (((HB2.out.trans (hb3.mono HB2.out.size)).setCell (by show w.heap.size ≤ w.heap.size + 1; omega) _).setCell (by show w.heap.size ≤ w.heap.size + 1; omega) _)
      go_wp2_with fail
      generalize (w3.setCell ⟨w.heap.size + 1, 0, none⟩ (.int .i64 0)).setCell ⟨w.heap.size + 1, 1, none⟩ (.int .i64 0) = V at *
      have v0 := cell_of_row _ _ 0 _ _ _ hF
      have v1 := cell_of_row _ _ 1 _ _ _ hF
      simp at v0 v1
      exact bodyPost_ret (v := .tuple #[.agg #[.int .i64 0, .int .i64 0], .int .i64 8]) (by simp [results, Try.results18, go_sem, v0, v1]) rfl ⟨rfl, WentH.below HP.out.hep HBW.out⟩
    · have hE : addE m o = 0 := by unfold addE; rw [if_neg (by rw [hm]; decide), if_neg hf]
      have HE : Hid (addE m o = 0 ∧ addV m o = (8, (gapH m.L : Int)) ∧ addM m o = m.lay (newCl o)) := Lib.hid ⟨hE, by unfold addV; rw [if_pos hE], by unfold addM; rw [if_pos hE]⟩
      rw [HE.out.1, HE.out.2.1, HE.out.2.2]
      rw [show decide (m.lim ≤ liveN m.L) = false from decide_eq_false hf] at HFU
      have HLT : Hid (liveN m.L < m.lim) := Lib.hid (by omega)
      have HK : Hid (∃ k, o.k = k) := Lib.hid ⟨_, rfl⟩
      obtain ⟨k, HK⟩ : ∃ k, Hid (o.k = k) := ⟨_, Lib.hid rfl⟩
      obtain ⟨G, HG⟩ : ∃ G, Hid (gapH m.L = G) := ⟨_, Lib.hid rfl⟩
      have hgl : G ≤ 16384 := by have := HG.out; omega
      rw [HK.out] at HB0 HX1 HX2 HSZ HM HCO ⊢
      rw [HG.out]
      clear h ho hm hE hx1 hx2 hsz hf hgg hss
      go_enter Try.func18, Try.ntmps18
      go_upto_region 1 with fail
      generalize (w.alloc (.cells #[.int .i64 k, .slice q n c, .slice p d e] 61)).alloc (.cells #[.int .i64 0, .int .i64 0] 36) = W at *
      have hsz := HSZ.out
      have z0 := cell_of_row _ _ 0 _ _ _ HX1.out
      have z1 := cell_of_row _ _ 1 _ _ _ HX1.out
      have z2 := cell_of_row _ _ 2 _ _ _ HX1.out
      simp at z0 z1 z2
      skip
      go_wp2_with (go_at_call 30; with_reducible refine (HM.out _ HB0.out).mono ?_; rintro ex w2 ⟨rfl, hb2⟩; have HB2 := Lib.hid (HB0.out.trans (hb2.mono (by omega))); have hx3 := (hb2.block (w.heap.size + 1) (by omega)).trans HX2.out; have hy3 := (hb2.block w.heap.size (by omega)).trans HX1.out)
      refine (HFU.out _ HB2.out).mono ?_
      rintro ex w3 ⟨rfl, hb3⟩
      have hx4 := (hb3.block (w.heap.size + 1) (lt_of_block hx3)).trans hx3
      have hy4 := (hb3.block w.heap.size (lt_of_block hy3)).trans hy3
      have HB3 := Lib.hid (HB2.out.trans (hb3.mono HB2.out.size))
      have y0 := cell_of_row _ _ 0 _ _ _ hy4
      have y1 := cell_of_row _ _ 1 _ _ _ hy4
      have y2 := cell_of_row _ _ 2 _ _ _ hy4
      simp at y0 y1 y2
      clear z0 z1 z2 hb2 hb3 hx3 hy3 HM HFU
      go_wp2_with (go_at_call 34; with_reducible refine (HCO.out _ HB3.out).mono ?_; rintro ex w4 ⟨vv, vb, rfl, hcp⟩; obtain ⟨qa, ca, rfl⟩ := own_form hcp.vs; obtain ⟨qb, cb, rfl⟩ := own_form hcp.bs)
      have HB4 := Lib.hid (HB3.out.trans (hcp.below.mono HB3.out.size))
      have hca0 := hcp.celAt HDG.out 0 false true
      have hbk := hcp.blk
      rw [HK.out] at hca0
      have hb5 : Below w4.heap.size w4 (w4.alloc (.cells #[.int .i64 k, .slice qa o.vs.length ca, .slice qb o.bs.length cb, .int .i64 0, .bool false, .bool true] 101)) := (Below.refl _ _).alloc (Nat.le_refl _) _
      have HB5 := Lib.hid (HB4.out.trans (hb5.mono HB4.out.size))
      have hp5 := HP.out.below HB5.out
      have hx5 := (hb5.block (w.heap.size + 1) (Nat.lt_of_lt_of_le (lt_of_block hx4) hcp.below.size)).trans ((hcp.below.block _ (lt_of_block hx4)).trans hx4)
      have h3s : w.heap.size + 2 ≤ w3.heap.size := by have := lt_of_block hx4; omega
      have hfoot : ∀ k2, blkP ((w4.heap.size, .slice qa o.vs.length ca, .slice qb o.bs.length cb) : Pos) k2 → ¬ footH g vr mb S k2 := fun k2 hk hf => by
        have h1 := hbk k2 hk
        have h2 := HP.out.lt k2 hf
        omega
      have HLAY := Lib.hid (hp5.lay (x := (w4.heap.size, .slice qa o.vs.length ca, .slice qb o.bs.length cb)) (c := newCl o) hca0 hfoot rfl HLT.out)
      rw [HG.out] at HLAY
      have HBK := Lib.hid hbk
      clear hca0 hfoot hp5 hb5 hbk hx4 hy4 y0 y1 y2
      generalize w4.alloc (.cells #[.int .i64 k, .slice qa o.vs.length ca, .slice qb o.bs.length cb, .int .i64 0, .bool false, .bool true] 101) = w5 at *
      refine HLAY.out.mono ?_
      rintro ex w6 ⟨rfl, vr', hp6, hch⟩
      rw [HG.out] at hp6 hch
      have hnf : ∀ j, j < 2 → ¬ (footH g vr mb S (w.heap.size + j) ∨ blkP ((w4.heap.size, .slice qa o.vs.length ca, .slice qb o.bs.length cb) : Pos) (w.heap.size + j)) := fun j hj hh => by
        rcases hh with hh | hh
        · have := HP.out.lt _ hh; omega
        · have := HBK.out _ hh; omega
      have hx6 := (hch.block (w.heap.size + 1) (lt_of_block hx5) (hnf 1 (by omega))).trans hx5
      have HP6 := Lib.hid hp6
      have HCH : Hid (Chp (footH g vr mb S) (footH g vr' mb (putS S G (some (w4.heap.size, .slice qa o.vs.length ca, .slice qb o.bs.length cb)))) w w6) := Lib.hid (by
        refine ⟨hch.os.trans HB5.out.os, hch.tape.trans HB5.out.tape, hch.output.trans HB5.out.output, Nat.le_trans HB5.out.size hch.size, fun k2 hk hf => ?_, fun k2 hk => ?_⟩
        · refine (hch.block k2 (Nat.lt_of_lt_of_le hk HB5.out.size) (fun hh => ?_)).trans (HB5.out.block k2 hk)
          rcases hh with hh | hh
          · exact hf hh
          · have := HBK.out _ hh; omega
        · rcases hch.fresh k2 hk with (hh | hh) | hh
          · exact .inl hh
          · exact .inr (by have := HBK.out _ hh; omega)
          · exact .inr (Nat.le_trans HB5.out.size hh))
      clear hp6 hch hnf hx5
      go_wp2_with (go_at_call 32; with_reducible refine (refTo_any (G : Int) _).mono ?_; rintro ex w7 ⟨rfl, hb7⟩; have hx7 := (hb7.block (w.heap.size + 1) (lt_of_block hx6)).trans hx6; have y0 := cell_of_row _ _ 0 _ _ _ hx7; have y1 := cell_of_row _ _ 1 _ _ _ hx7; have f0 := frozen_of_row _ _ 0 _ _ hx7; have f1 := frozen_of_row _ _ 1 _ _ hx7; simp at y0 y1)
      have hF := two_row _ _ _ _ _ (.int .i64 8) (.int .i64 (G : Int)) hx7
      have hnb : ∀ k2, footH g vr' mb (putS S G (some (w4.heap.size, .slice qa o.vs.length ca, .slice qb o.bs.length cb))) k2 → k2 ≠ w.heap.size + 1 := fun k2 hk e2 => by
        subst e2
        exact HCH.out.fresh _ hk |>.elim (fun hh => by have := HP.out.lt _ hh; omega) (fun hh => by
          have h1 := HP6.out.lt _ hk
          rcases hk with hk | hk | hk | ⟨i2, x2, hx2, hk⟩
          · exact absurd (HP.out.lt g (.inl rfl)) (by omega)
          · obtain ⟨cur, hc⟩ := own_head HP6.out.row hk
            exact ne_of_ty hc hx6 (by decide) rfl
          · exact absurd (HP.out.lt mb (.inr (.inr (.inl rfl)))) (by omega)
          · unfold putS at hx2
            split at hx2
            · cases hx2; have := HBK.out _ hk; omega
            · exact absurd (HP.out.lt _ (.inr (.inr (.inr ⟨i2, x2, hx2, hk⟩)))) (by omega))
      have HW : Hid (WentH (footH g vr mb S) g (m.lay (newCl o)) w ((w7.setCell ⟨w.heap.size + 1, 0, none⟩ (.int .i64 8)).setCell ⟨w.heap.size + 1, 1, none⟩ (.int .i64 (G : Int)))) := Lib.hid (by
        refine ⟨_, ((HP6.out.below hb7).keep fun k2 hk => ?_).hep, ?_⟩
        · have h1 := hnb k2 hk
          exact (heap_setCell_other _ _ _ _ h1).trans (heap_setCell_other _ _ _ _ h1)
        · have hb8 : Below (w.heap.size) w7 ((w7.setCell ⟨w.heap.size + 1, 0, none⟩ (.int .i64 8)).setCell ⟨w.heap.size + 1, 1, none⟩ (.int .i64 (G : Int))) := ((Below.refl _ _).setCell (by show w.heap.size ≤ w.heap.size + 1; omega) _).setCell (by show w.heap.size ≤ w.heap.size + 1; omega) _
          have hch7 := HCH.out.trans (Chp.of_below hb7)
          exact ⟨hb8.os.trans hch7.os, hb8.tape.trans hch7.tape, hb8.output.trans hch7.output, Nat.le_trans hch7.size hb8.size, fun k2 hk hf => (hb8.block k2 hk).trans (hch7.block k2 hk hf), hch7.fresh⟩)
      clear hnb hx7 HP6 HCH
      go_wp2_with fail
      generalize (w7.setCell ⟨w.heap.size + 1, 0, none⟩ (.int .i64 8)).setCell ⟨w.heap.size + 1, 1, none⟩ (.int .i64 (G : Int)) = V at *
      have v0 := cell_of_row _ _ 0 _ _ _ hF
      have v1 := cell_of_row _ _ 1 _ _ _ hF
      simp at v0 v1
      exact bodyPost_ret (v := .tuple #[.agg #[.int .i64 8, .int .i64 (G : Int)], .int .i64 0]) (by simp [results, Try.results18, go_sem, v0, v1]) rfl ⟨rfl, HW.out⟩
end
end Go.Proofs.Ytekmboolfjicbaa
