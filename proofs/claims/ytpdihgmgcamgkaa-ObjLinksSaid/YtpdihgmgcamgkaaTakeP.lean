/- takeParts and takeBytes: all parts, all bytes; May. -/
import Derived.Test.YtpdihgmgcamgkaaKept
import Derived.Shelf.Abstract
import Derived.Deep.Cut
import Derived.Deep.RegionHeld3
set_option linter.unusedSimpArgs false
set_option maxRecDepth 20000
namespace Go.Proofs.Ytpdihgmgcamgkaa
open Go.RowKit Go.Shelf

/-- What a rule's function tells. -/
theorem rule_one (r : Rl) (v : Value) (k : Int) (w : World) (h : RlV w v r) : ∃ f cs, v = .func (.func f) #[] cs ∧ (∀ args w, (callFunc f args).run Try.prog w = .ok (.enter f args) w) ∧
    ∀ w', Below w.heap.size w w' → Calls Try.prog f (#[.int .i64 k] ++ cs) w' fun e w'' => e = .returned (.tuple #[.agg #[.int .i64 (r.ap k).lo, .int .i64 (r.ap k).hi], .bool (r.ap k).ok]) ∧ Below w'.heap.size w' w'' := by
  cases h with
  | any => exact ⟨53, #[], rfl, enters_of Try.func53 (by kernel_rfl) rfl, fun w' _ => numbers_any k w'⟩
  | tag => exact ⟨59, #[], rfl, enters_of Try.func59 (by kernel_rfl) rfl, fun w' _ => tag_any k w'⟩
  | ref B K h h0 =>
    refine ⟨63, _, rfl, enters_of Try.func63 (by kernel_rfl) rfl, fun w' hb => oneOf1_any B K 1 [8] k (decide (k = 8)) w' (by omega) ((hb.cell (World.block_lt_of_cell? w _ h)).trans h) ⟨rfl, fun _ => ⟨K, 0, rfl, fun i hi => ?_⟩⟩ (Lib.hid (by simp))⟩
    obtain rfl : i = 0 := by omega
    exact (hb.cell (World.block_lt_of_cell? w _ h0)).trans h0
  | refNil B K h h0 h1 =>
    refine ⟨63, _, rfl, enters_of Try.func63 (by kernel_rfl) rfl, fun w' hb => oneOf1_any B K 2 [8, 0] k (decide (k = 8) || decide (k = 0)) w' (by omega) ((hb.cell (World.block_lt_of_cell? w _ h)).trans h) ⟨rfl, fun _ => ⟨K, 0, rfl, fun i hi => ?_⟩⟩ (Lib.hid (by simp))⟩
    rcases (show i = 0 ∨ i = 1 by omega) with rfl | rfl
    · exact (hb.cell (World.block_lt_of_cell? w _ h0)).trans h0
    · exact (hb.cell (World.block_lt_of_cell? w _ h1)).trans h1
theorem NdV.below {w w' : World} {v : Value} {n : Nd} (h : NdV w v n) (hb : Below w.heap.size w w') : NdV w' v n := by
  obtain ⟨q, k, c, e, hR⟩ := h
  exact ⟨q, k, c, e, hR.below hb⟩
theorem two_read {V : World} {g g2 i : Nat} {a b : Value} (h : g2 ≠ g) : ((V.setCell ⟨g, 0, none⟩ a).setCell ⟨g, 1, none⟩ b).cell? ⟨g2, i, none⟩ = V.cell? ⟨g2, i, none⟩ := by
  rw [set_other _ _ _ _ _ h, set_other _ _ _ _ _ h]
/-- Behind the call of a rule's function. -/
structure Tp (X Y : World) (t : Nat) (s : Sp) : Prop where
  below : Below X.heap.size X Y
  row : Y.heap[t]? = some (.cells #[.int .i64 s.lo, .int .i64 s.hi] 60 (0, 0))
theorem partsM_drop (n : Nd) (l : List Pt) (i : Nat) (h : i < l.length) : partsM n i (l.drop i) = (partOk n i (l.getD i default) && partsM n (i + 1) (l.drop (i + 1))) := by
  rw [List.drop_eq_getElem_cons h, List.getD_eq_getElem?_getD, List.getElem?_eq_getElem h]
  rfl
set_option maxHeartbeats 1600000 in
theorem takeParts_any (v : Value) (N : Nd) (q : Option Addr) (n c : Nat) (l : List Pt) (w : World) (hn : n ≤ 9223372036854775807) (hv : NdV w v N) (hp : Pts w q n l) :
    Calls Try.prog 27 #[v, .slice q n c] w fun e w' => e = .returned (.bool (partsM N 0 l)) ∧ Below w.heap.size w w' := by
  have HV := Lib.hid hv
  have HL := Lib.hid hp.1
  have HP := Lib.hid hp
  obtain ⟨q0, k0, c0, rfl, _⟩ := hv
  clear hp
  go_enter Try.func27, Try.ntmps27
  go_wp2_with fail
  obtain ⟨w0, hw0⟩ : ∃ w0, Hid (w.alloc (.cells #[.int .i64 N.least, .int .i64 N.most, .slice q0 k0 c0, .int .i64 N.bytes, .int .u8 (N.high : Int)] 63) = w0) := ⟨_, Lib.hid rfl⟩
  have HB0 : Hid (Below w.heap.size w w0) := Lib.hid (by rw [← hw0.out]; exact (Below.refl _ _).alloc (Nat.le_refl _) _)
  have H2 : Hid (w0.heap[w.heap.size]? = some (.cells #[.int .i64 N.least, .int .i64 N.most, .slice q0 k0 c0, .int .i64 N.bytes, .int .u8 (N.high : Int)] 63 (0, 0))) := Lib.hid (by rw [← hw0.out]; exact heap_alloc_new w _)
  rw [hw0.out]
  clear hw0
  go_loopw [5, 6, 7, 8, 11] (fun _ _ _ _ iv wr => ∃ i : Nat, i ≤ n ∧ iv = .int .i64 (i : Int) ∧ Hid (partsM N 0 l = partsM N i (l.drop i)) ∧ Hid (Below w.heap.size w wr) ∧ Hid (wr.heap[w.heap.size]? = some (.cells #[.int .i64 N.least, .int .i64 N.most, .slice q0 k0 c0, .int .i64 N.bytes, .int .u8 (N.high : Int)] 63 (0, 0)))) (fun _ _ _ _ iv _ => n - (intOf iv).toNat)
  case atStart => exact ⟨0, by omega, by go_num, Lib.hid rfl, HB0, H2⟩
  case round =>
    obtain ⟨i, hi, rfl, HI, HB, H2r⟩ := hrel
    by_cases hlt : i < n
    · obtain ⟨b, o, rfl, hc⟩ := (HP.out.below (HB.out.mono (Nat.le_refl _))).2 (by omega)
      obtain ⟨p0, p1, p2⟩ := hc i hlt
      have HD := Lib.hid (partsM_drop N l i (by rw [HL.out]; exact hlt))
      obtain ⟨p, HPP⟩ : ∃ p, Hid (l.getD i default = p) := ⟨_, Lib.hid rfl⟩
      rw [HPP.out] at p0 p1 p2 HD
      obtain ⟨pk, pn, ps⟩ := p
      have hd1 : decide ((i : Int) < (n : Int)) = true := by simp; omega
      have HVN : Hid (NdV wr (.agg #[.int .i64 N.least, .int .i64 N.most, .slice q0 k0 c0, .int .i64 N.bytes, .int .u8 (N.high : Int)]) N) := Lib.hid (HV.out.below (HB.out.mono (Nat.le_refl _)))
      clear hc
      go_upto_region 4 with fail
      obtain ⟨X, hX⟩ : ∃ X, Hid (wr.alloc (.cells #[.int .i64 pk, .int .i64 pn, .string ps] 54) = X) := ⟨_, Lib.hid rfl⟩
      have HBX : Hid (Below wr.heap.size wr X) := Lib.hid (by rw [← hX.out]; exact (Below.refl _ _).alloc (Nat.le_refl _) _)
      have HNX := Lib.hid (HVN.out.below HBX.out)
      have HCX : Hid (X.heap[wr.heap.size]? = some (.cells #[.int .i64 pk, .int .i64 pn, .string ps] 54 (0, 0))) := Lib.hid (by rw [← hX.out]; exact heap_alloc_new wr _)
      have H2X : Hid (X.heap[w.heap.size]? = some (.cells #[.int .i64 N.least, .int .i64 N.most, .slice q0 k0 c0, .int .i64 N.bytes, .int .u8 (N.high : Int)] 63 (0, 0))) := Lib.hid ((HBX.out.block _ (lt_of_block H2r.out)).trans H2r.out)
      rw [hX.out]
      clear hX
      have d0 := cell_of_row _ _ 0 _ _ _ H2X.out
      have d1 := cell_of_row _ _ 1 _ _ _ H2X.out
      have d2 := cell_of_row _ _ 2 _ _ _ H2X.out
      have d3 := cell_of_row _ _ 3 _ _ _ H2X.out
      have d4 := cell_of_row _ _ 4 _ _ _ H2X.out
      have e0 := cell_of_row _ _ 0 _ _ _ HCX.out
      simp at d0 d1 d2 d3 d4 e0
      have HE : Hid (∀ u, Below X.heap.size X u → (u.cell? ⟨w.heap.size, 0, none⟩ = some (.int .i64 N.least) ∧ u.cell? ⟨w.heap.size, 1, none⟩ = some (.int .i64 N.most) ∧ u.cell? ⟨w.heap.size, 2, none⟩ = some (.slice q0 k0 c0) ∧ u.cell? ⟨w.heap.size, 3, none⟩ = some (.int .i64 N.bytes) ∧ u.cell? ⟨w.heap.size, 4, none⟩ = some (.int .u8 (N.high : Int))) ∧ u.cell? ⟨wr.heap.size, 0, none⟩ = some (.int .i64 pk)) :=
        Lib.hid (fun u hu => ⟨⟨(hu.cell (World.block_lt_of_cell? X _ d0)).trans d0, (hu.cell (World.block_lt_of_cell? X _ d1)).trans d1, (hu.cell (World.block_lt_of_cell? X _ d2)).trans d2, (hu.cell (World.block_lt_of_cell? X _ d3)).trans d3, (hu.cell (World.block_lt_of_cell? X _ d4)).trans d4⟩, (hu.cell (World.block_lt_of_cell? X _ e0)).trans e0⟩)
      have HNN : Hid (∀ u, Below X.heap.size X u → w.heap.size ≠ u.heap.size ∧ wr.heap.size ≠ u.heap.size) := Lib.hid (fun u hu => ⟨by have := hu.size; have := lt_of_block H2X.out; omega, by have := hu.size; have := lt_of_block HCX.out; omega⟩)
      obtain ⟨nX1, nX2⟩ := HNN.out X (Below.refl _ _)
      have HRA := Lib.hid (fun r v w h => rule_one r v pk w h)
      have HZ : Hid (∀ V V' : World, Below (V.alloc (.cells #[.int .i64 0, .int .i64 0] 60)).heap.size (V.alloc (.cells #[.int .i64 0, .int .i64 0] 60)) V' → V'.heap[V.heap.size]? = some (.cells #[.int .i64 0, .int .i64 0] 60 (0, 0))) :=
        Lib.hid (fun V V' hb => (hb.block V.heap.size (by simp)).trans (heap_alloc_new V _))
      have HZC : Hid (∀ (V : World) (g : Nat), V.heap[g]? = some (.cells #[.int .i64 0, .int .i64 0] 60 (0, 0)) →
          (V.cell? ⟨g, 0, none⟩ = some (.int .i64 0) ∧ V.cell? ⟨g, 1, none⟩ = some (.int .i64 0)) ∧ V.frozen? ⟨g, 0, none⟩ = false ∧ V.frozen? ⟨g, 1, none⟩ = false) := Lib.hid (fun V g h =>
        ⟨⟨by rw [cell_of_row _ _ _ _ _ _ h]; rfl, by rw [cell_of_row _ _ _ _ _ _ h]; rfl⟩, frozen_of_row _ _ _ _ _ h, frozen_of_row _ _ _ _ _ h⟩)
      go_region_held3 (fun u => u.cell? ⟨w.heap.size, 0, none⟩ = some (.int .i64 N.least) ∧ u.cell? ⟨w.heap.size, 1, none⟩ = some (.int .i64 N.most) ∧ u.cell? ⟨w.heap.size, 2, none⟩ = some (.slice q0 k0 c0) ∧ u.cell? ⟨w.heap.size, 3, none⟩ = some (.int .i64 N.bytes) ∧ u.cell? ⟨w.heap.size, 4, none⟩ = some (.int .u8 (N.high : Int)) ∧ u.cell? ⟨wr.heap.size, 0, none⟩ = some (.int .i64 pk)) ((first
        | with_reducible exact ⟨e60, e61, e62, e63, e64, e65⟩
        | with_reducible exact ⟨(two_read n51).trans e60, (two_read n51).trans e61, (two_read n51).trans e62, (two_read n51).trans e63, (two_read n51).trans e64, (two_read n52).trans e65⟩
        | with_reducible exact ⟨(two_read nX1).trans e60, (two_read nX1).trans e61, (two_read nX1).trans e62, (two_read nX1).trans e63, (two_read nX1).trans e64, (two_read nX2).trans e65⟩
        | go_keep)) (first
        | (go_at_call 34
           refine (at_any _ N i _ (by omega) (HNX.out.below (by first | exact Below.refl _ _ | exact (Below.refl _ _).drew | exact ((Below.refl _ _).alloc (Nat.le_refl _) _).drew))).mono ?_
           rintro e w5 ⟨r5, rfl, hr5, hb5⟩
           obtain ⟨f5, cs5, rfl, eg5, hC5⟩ := HRA.out _ _ w5 hr5
           first
             | (have hB5 : Below X.heap.size X w5 := (Below.refl _ _).drew.trans hb5
                obtain ⟨⟨e50, e51, e52, e53, e54⟩, e55⟩ := HE.out w5 hB5
                obtain ⟨n51, n52⟩ := HNN.out w5 hB5)
             | (have hA5 := (Below.refl X.heap.size X).alloc (Nat.le_refl _) (.cells #[.int .i64 0, .int .i64 0] 60)
                have hb5 := (Below.refl _ (X.alloc (.cells #[.int .i64 0, .int .i64 0] 60))).drew.trans hb5
                have hB5 : Below X.heap.size X w5 := hA5.trans (hb5.mono hA5.size)
                obtain ⟨⟨e50, e51, e52, e53, e54⟩, e55⟩ := HE.out w5 hB5
                obtain ⟨n51, n52⟩ := HNN.out w5 hB5
                have hz5 := HZ.out _ _ hb5
                obtain ⟨⟨s50, s51⟩, s52, s53⟩ := HZC.out _ _ hz5))
        | (go_at_fn f5
           first
             | (refine (hC5 _ (Below.refl _ _)).mono ?_
                rintro e w6 ⟨rfl, hb6⟩
                first
                  | (have hz6 := (hb6.block _ (lt_of_block hz5)).trans hz5
                     obtain ⟨⟨s60, s61⟩, s62, s63⟩ := HZC.out _ _ hz6)
                  | skip
                have hB6 : Below X.heap.size X w6 := hB5.trans (hb6.mono hB5.size)
                obtain ⟨⟨e60, e61, e62, e63, e64⟩, e65⟩ := HE.out w6 hB6
                obtain ⟨n61, n62⟩ := HNN.out w6 hB6)
             | (have hA6 := (Below.refl w5.heap.size w5).alloc (Nat.le_refl _) (.cells #[.int .i64 0, .int .i64 0] 60)
                refine (hC5 _ hA6).mono ?_
                rintro e w6 ⟨rfl, hb6⟩
                have hz6 := HZ.out _ _ hb6
                obtain ⟨⟨s60, s61⟩, s62, s63⟩ := HZC.out _ _ hz6
                have hB6 : Below X.heap.size X w6 := hB5.trans ((hA6.trans (hb6.mono hA6.size)).mono hB5.size)
                obtain ⟨⟨e60, e61, e62, e63, e64⟩, e65⟩ := HE.out w6 hB6
                obtain ⟨n61, n62⟩ := HNN.out w6 hB6)))
      all_goals first
        | (have HT : Hid (Tp X ((w6.setCell ⟨w5.heap.size, 0, none⟩ (.int .i64 ((N.at i).ap pk).lo)).setCell ⟨w5.heap.size, 1, none⟩ (.int .i64 ((N.at i).ap pk).hi)) w5.heap.size ((N.at i).ap pk)) :=
             Lib.hid ⟨(hB6.setCell hB5.size _).setCell hB5.size _, heap_setCell_same _ _ 1 _ _ _ (heap_setCell_same _ _ 0 _ _ _ hz6)⟩
           generalize ((w6.setCell ⟨w5.heap.size, 0, none⟩ (.int .i64 ((N.at i).ap pk).lo)).setCell ⟨w5.heap.size, 1, none⟩ (.int .i64 ((N.at i).ap pk).hi)) = Y at HT ⊢
           generalize w5.heap.size = t at HT ⊢)
        | (have HT : Hid (Tp X ((w6.setCell ⟨X.heap.size, 0, none⟩ (.int .i64 ((N.at i).ap pk).lo)).setCell ⟨X.heap.size, 1, none⟩ (.int .i64 ((N.at i).ap pk).hi)) X.heap.size ((N.at i).ap pk)) :=
             Lib.hid ⟨(hB6.setCell (Nat.le_refl _) _).setCell (Nat.le_refl _) _, heap_setCell_same _ _ 1 _ _ _ (heap_setCell_same _ _ 0 _ _ _ hz6)⟩
           generalize ((w6.setCell ⟨X.heap.size, 0, none⟩ (.int .i64 ((N.at i).ap pk).lo)).setCell ⟨X.heap.size, 1, none⟩ (.int .i64 ((N.at i).ap pk).hi)) = Y at HT ⊢
           generalize X.heap.size = t at HT ⊢)
        | (have HT : Hid (Tp X (w6.alloc (.cells #[.int .i64 ((N.at i).ap pk).lo, .int .i64 ((N.at i).ap pk).hi] 60)) w6.heap.size ((N.at i).ap pk)) := Lib.hid ⟨hB6.alloc hB6.size _, heap_alloc_new w6 _⟩
           generalize w6.alloc (.cells #[.int .i64 ((N.at i).ap pk).lo, .int .i64 ((N.at i).ap pk).hi] 60) = Y at HT ⊢
           generalize w6.heap.size = t at HT ⊢)
      all_goals
        clear e50 e51 e52 e53 e54 e55 e60 e61 e62 e63 e64 e65 d0 d1 d2 d3 d4 e0
        clear n51 n52 n61 n62 nX1 nX2
        have s0 := cell_of_row _ _ 0 _ _ _ HT.out.row
        have s1 := cell_of_row _ _ 1 _ _ _ HT.out.row
        have hp6 : Y.heap[wr.heap.size]? = _ := (HT.out.below.block _ (lt_of_block HCX.out)).trans HCX.out
        have k6 := cell_of_row _ _ 0 _ _ _ hp6
        have k7 := cell_of_row _ _ 1 _ _ _ hp6
        have k8 := cell_of_row _ _ 2 _ _ _ hp6
        simp at s0 s1 k6 k7 k8
        have HY : Hid (Below w.heap.size w Y) := Lib.hid ((HB.out.trans (HBX.out.mono HB.out.size)).trans (HT.out.below.mono (by have := HB.out.size; have := HBX.out.size; omega)))
        have HY2 : Hid (Y.heap[w.heap.size]? = some (.cells #[.int .i64 N.least, .int .i64 N.most, .slice q0 k0 c0, .int .i64 N.bytes, .int .u8 (N.high : Int)] 63 (0, 0))) := Lib.hid ((HT.out.below.block _ (lt_of_block H2X.out)).trans H2X.out)
        have HPO : Hid (partOk N i ⟨pk, pn, ps⟩ = (((N.at i).ap pk).ok && mayBeM ⟨pk, pn, ps⟩ ((N.at i).ap pk).lo ((N.at i).ap pk).hi)) := Lib.hid rfl
        have HMB := Lib.hid (fun w => mayBe_any ⟨pk, pn, ps⟩ ((N.at i).ap pk).lo ((N.at i).ap pk).hi w)
        unfold Pt.val at HMB
        clear HT HRA HE HNN HNX HZ HZC hp6
        generalize mayBeM ⟨pk, pn, ps⟩ ((N.at i).ap pk).lo ((N.at i).ap pk).hi = m at HPO HMB
        generalize ((N.at i).ap pk).lo = lo at *
        generalize ((N.at i).ap pk).hi = hi at *
        generalize ((N.at i).ap pk).ok = ok at *
        cases ok with
        | false =>
          have HR : Hid (partsM N 0 l = false) := Lib.hid (by rw [HI.out, HD.out, HPO.out]; rfl)
          go_wp2_with fail
          go_ret
          rw [HR.out]
          exact ⟨rfl, HY.out⟩
        | true =>
          go_wp2_with fail
          refine (HMB.out _).mono ?_
          rintro e w7 ⟨rfl, hb7⟩
          have HB7 := Lib.hid (HY.out.trans (hb7.mono HY.out.size))
          have HY7 := Lib.hid ((hb7.block _ (lt_of_block HY2.out)).trans HY2.out)
          clear hb7
          cases m with
          | false =>
            have HR : Hid (partsM N 0 l = false) := Lib.hid (by rw [HI.out, HD.out, HPO.out]; rfl)
            go_wp2_with fail
            go_ret
            rw [HR.out]
            exact ⟨rfl, HB7.out⟩
          | true =>
            have HR : Hid (partsM N 0 l = partsM N (i + 1) (l.drop (i + 1))) := Lib.hid (by rw [HI.out, HD.out, HPO.out]; rfl)
            go_wp2_with fail
            go_roundw
            case rel => exact ⟨i + 1, by omega, by go_num, HR, HB7, HY7⟩
            case measure => simp [intOf]; omega
    · obtain rfl : i = n := by omega
      have HR : Hid (partsM N 0 l = true) := Lib.hid (by rw [HI.out, ← HL.out, List.drop_length]; rfl)
      go_wp2_with fail
      go_ret
      rw [HR.out]
      exact ⟨rfl, HB.out⟩
end Go.Proofs.Ytpdihgmgcamgkaa
