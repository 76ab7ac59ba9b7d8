/- Texts RdQ2 to HObj of this seat, laid into one. -/
import Derived.StillTailTactics
import Derived.Test.YthjjgpepgbfalaaGreatDoorM06
import Derived.Test.YthjjgpepgbfalaaGreatDoorM18
set_option linter.unusedVariables false
set_option linter.unusedSimpArgs false
set_option linter.constructorNameAsVariable false
section
/-! newNames. -/
set_option maxRecDepth 20000
set_option linter.unusedSimpArgs false
set_option linter.unusedVariables false
namespace Go.Proofs.YthjjgpepgbfalaaGreatDoor
open Go.RowKit Go.Shelf

def NnR (w w' : World) (n : Nat) (e : Ending) : Prop := e = .returned (.int .i64 (n : Int)) ∧ Below w.heap.size w w'
theorem nn_len {w1 : World} {b n : Nat} {N : List ByteArray} {A : List Nd} {d : List Nat} (h : GMap (K := List UInt8) (V := Unit) 9 (fun s => s.length ≤ 100000) strS (fun _ => .agg #[]) w1 b n (indF (nnT N A d))) : (Builtin.len_ #[113] 3 #[.map (some b)]).run Tryz.prog w1 = .ok (.int .i64 ((nnT N A d).length : Int)) w1 := by
  obtain ⟨es, clock, h⟩ := h
  have hc := h.count namT (nnT N A d) (nnT_nodup N A d).1 fun x => by
    unfold indF
    constructor
    · intro hx; exact ⟨(), if_pos hx⟩
    · rintro ⟨s, hs⟩
      by_cases hx : x ∈ nnT N A d
      · exact hx
      · rw [if_neg hx] at hs; cases hs
  rw [← hc]
  simp [Builtin.len_, run_underlying namT.und, MapKept.run_getObj_map h.hb, goInt, Result.andThen]
section
variable {w : World} {S : Nat → Nat} {V : Nat → Value} {A : List Nd} {gt : Nat} {Ft : List Nat} {N : List ByteArray}
set_option maxHeartbeats 1600000 in
theorem newNames_any (h : Nds w S V A) (ht : Sy.Tb w gt Ft N) (hA : 0 < A.length) (hA2 : A.length ≤ 20000) (hp : (pre A 0).length ≤ 20000) : Calls Tryz.prog 28 #[.pointer (some ⟨gt, 0, none⟩), .pointer (some ⟨S 0, 0, none⟩)] w (fun e w' => NnR w w' (nnT N A (pre A 0)).length e) := by
  obtain ⟨W0, hW0⟩ : ∃ W0, ((w.alloc (.cells #[.pointer (some ⟨gt, 0, none⟩)] 28)).alloc (.map #[] 0)).alloc (.cells #[.map (some (w.heap.size + 1))] 113) = W0 := ⟨_, rfl⟩
  have hb : Below w.heap.size w W0 := by rw [← hW0]; exact (((Below.refl _ _).alloc (Nat.le_refl _) _).alloc (by simp) _).alloc (by simp; omega) _
  have hsz : W0.heap.size = w.heap.size + 3 := by rw [← hW0]; simp
  have h1 : W0.heap[w.heap.size]? = some (.cells #[.pointer (some ⟨gt, 0, none⟩)] 28 (0, 0)) := by
    rw [← hW0]
    exact (Below.heap_alloc _ _ _ (by simp; omega)).trans ((Below.heap_alloc _ _ _ (by simp)).trans (heap_alloc_new _ _))
  have h2 : W0.heap[w.heap.size + 2]? = some (.cells #[.map (some (w.heap.size + 1))] 113 (0, 0)) := by
    rw [← hW0]
    have := heap_alloc_new ((w.alloc (.cells #[.pointer (some ⟨gt, 0, none⟩)] 28)).alloc (.map #[] 0)) (.cells #[.map (some (w.heap.size + 1))] 113)
    simpa using this
  have h3 : GMap (K := List UInt8) (V := Unit) 9 (fun s => s.length ≤ 100000) strS (fun _ => .agg #[]) W0 (w.heap.size + 1) 0 (indF (nnT N A [])) := by
    rw [show indF (nnT N A []) = fun _ => none from by funext x; unfold indF nnT; simp]
    have hm := GMap.made (K := List UInt8) (V := Unit) (k := 9) (dom := fun s => s.length ≤ 100000) (kv := strS) (vv := fun _ => .agg #[]) (w.alloc (.cells #[.pointer (some ⟨gt, 0, none⟩)] 28))
    rw [World.size_alloc] at hm
    rw [← hW0]
    exact hm.below (alloc_below _ _)
  have hlt := pre_lt h.ord A.length 0 hA (by omega)
  have hE := each_any (fid := 46) (caps := #[.pointer (some ⟨w.heap.size, 0, none⟩), .pointer (some ⟨w.heap.size + 2, 0, none⟩)]) (A := A) (S := S) (V := V) (J := fun d W => NnJ w S V A gt Ft N d W ∧ w.heap.size + 3 ≤ W.heap.size) (L := pre A 0) (enters_of Tryz.func46 (by kernel_rfl) rfl) h.ord
    (fun d W hJ => hJ.1.nds.shp rfl (fun _ _ => rfl) (by omega))
    (fun d i r W hL hJ => by
      have hi : i < A.length := (hlt i (by rw [← hL]; simp)).2
      have hdl : d.length ≤ 20000 := by have := congrArg List.length hL; simp at this; omega
      exact hJ.1.step hJ.2 (by omega) hi (by omega) h.lt ht.lt)
    A.length 0 hA (by omega) [] [] (by simp) W0 ⟨⟨h.below hb, ht.below hb, h1, h2, h3, hb⟩, by omega⟩
  have HE := Lib.hid hE
  have hmf : ∀ (fn : Fn) (first cap : Array Value) (w : World), (Instr.makeFunc fn first cap).run Tryz.prog w = .ok (.func fn first cap) w := fun _ _ _ _ => rfl
  have hmm := @run_makeMap Tryz.prog
  clear hE hlt h ht hb h1 h2 h3 hp hsz hA hA2
  go_enter Tryz.func28, Tryz.ntmps28
  go_wp2_with (go_at_call 29; with_reducible refine HE.out.mono ?_; rintro e w1 ⟨rfl, hj, -⟩; have c0 := cell_of_row _ _ 0 _ _ _ hj.b2; simp at c0; have hlen : (Builtin.len_ #[113] 3 #[.map (some (w.heap.size + 1))]).run Tryz.prog w1 = .ok (.int .i64 ((nnT N A (pre A 0)).length : Int)) w1 := nn_len hj.map)
  go_ret
  exact ⟨rfl, hj.bel⟩
end
end Go.Proofs.YthjjgpepgbfalaaGreatDoor
end
section
/-! An object added. -/
set_option maxRecDepth 20000
set_option linter.unusedSimpArgs false
namespace Go.Proofs.YthjjgpepgbfalaaGreatDoor
open Go.RowKit

def addE (m : Hm) (o : Ob) : Int := if mayO m.L o = false then 1 else if m.lim ≤ liveN m.L then 8 else 0
def addV (m : Hm) (o : Ob) : Int × Int := if addE m o = 0 then (8, (gapH m.L : Int)) else (0, 0)
def newCl (o : Ob) : Cl := ⟨o, 0, false, true⟩
def addM (m : Hm) (o : Ob) : Hm := if addE m o = 0 then m.lay (newCl o) else m
/-- An object with what else its cell has. -/
theorem two_row (W : World) (g t : Nat) (a0 a1 b0 b1 : Value) (h : W.heap[g]? = some (.cells #[a0, a1] t (0, 0))) :
    ((W.setCell ⟨g, 0, none⟩ b0).setCell ⟨g, 1, none⟩ b1).heap[g]? = some (.cells #[b0, b1] t (0, 0)) :=
  heap_setCell_same _ _ 1 _ _ _ (heap_setCell_same _ _ 0 _ _ _ h)
theorem Cpy.celAt {w w' : World} {o : Ob} {vv vb : Value} (h : Cpy w w' o vv vb) (hd : ∀ x ∈ o.bs, x < 256) (num : Nat) (aw ch : Bool) :
    CelAt (w'.alloc (.cells #[.int .i64 o.k, vv, vb, .int .i64 (num : Int), .bool aw, .bool ch] 105)) (w'.heap.size, vv, vb) ⟨o, num, aw, ch⟩ :=
  ⟨heap_alloc_new _ _, base0 (h.vs.alloc _), base0 (h.bs.alloc _), hd⟩
theorem Cpy.blk {w w' : World} {o : Ob} {vv vb : Value} (h : Cpy w w' o vv vb) : ∀ k, blkP (w'.heap.size, vv, vb) k → w.heap.size ≤ k := by
  rintro k (rfl | e | e)
  · exact h.below.size
  · exact own_ge h.vs e
  · exact own_ge h.bs e
section
variable {w : World} {g mb : Nat} {vr : Value} {S : Nat → Option Pos} {m : Hm}
set_option maxHeartbeats 3200000 in
theorem Hp.add (h : Hp w g vr mb S m) (o : Ob) (q p : Option Addr) (n c d e : Nat) (ho : ObV w q n p d o) (hn : n ≤ 100000) (hd : d ≤ 100000) :
    Calls Tryz.prog 50 #[.pointer (some ⟨g, 0, none⟩), .agg #[.int .i64 o.k, .slice q n c, .slice p d e]] w fun ex w' => ex = .returned (.tuple #[valV (addV m o), .int .i64 (addE m o)]) ∧ WentH (footH g vr mb S) g (addM m o) w w' := by
  have HP := Lib.hid h
  have HB0 : Hid (Below w.heap.size w ((w.alloc (.cells #[.int .i64 o.k, .slice q n c, .slice p d e] 103)).alloc (.cells #[.int .i64 0, .int .i64 0] 36))) := Lib.hid (((Below.refl _ _).alloc (Nat.le_refl _) _).alloc (by simp) _)
  have hx2 : ((w.alloc (.cells #[.int .i64 o.k, .slice q n c, .slice p d e] 103)).alloc (.cells #[.int .i64 0, .int .i64 0] 36)).heap[w.heap.size + 1]? = some (.cells #[.int .i64 0, .int .i64 0] 36 (0, 0)) := heap_alloc2_new w _ _
  have HX2 := Lib.hid hx2
  have hx1 : ((w.alloc (.cells #[.int .i64 o.k, .slice q n c, .slice p d e] 103)).alloc (.cells #[.int .i64 0, .int .i64 0] 36)).heap[w.heap.size]? = some (.cells #[.int .i64 o.k, .slice q n c, .slice p d e] 103 (0, 0)) := heap_alloc2_old w _ _
  have HX1 := Lib.hid hx1
  have hsz : ((w.alloc (.cells #[.int .i64 o.k, .slice q n c, .slice p d e] 103)).alloc (.cells #[.int .i64 0, .int .i64 0] 36)).heap.size = w.heap.size + 2 := by simp
  have HSZ := Lib.hid hsz
  have HM : Hid (∀ w1, Below w.heap.size w w1 → Calls Tryz.prog 75 #[.pointer (some ⟨g, 0, none⟩), .agg #[.int .i64 o.k, .slice q n c, .slice p d e]] w1 fun ex w' => ex = .returned (.bool (mayO m.L o)) ∧ Below w1.heap.size w1 w') := Lib.hid fun w1 hb => (h.below hb).mayObj o q p n c d e (ho.below hb)
  have HFU : Hid (∀ w1, Below w.heap.size w w1 → Calls Tryz.prog 76 #[.pointer (some ⟨g, 0, none⟩)] w1 fun ex w' => ex = .returned (.bool (decide (m.lim ≤ liveN m.L))) ∧ Below w1.heap.size w1 w') := Lib.hid fun w1 hb => (h.below hb).full
  have HCO : Hid (∀ w1, Below w.heap.size w w1 → Calls Tryz.prog 79 #[.agg #[.int .i64 o.k, .slice q n c, .slice p d e]] w1 fun ex w' => ∃ vv vb, ex = .returned (.agg #[.int .i64 o.k, vv, vb]) ∧ Cpy w1 w' o vv vb) := Lib.hid fun w1 hb => copyOf_any o q p n c d e w1 (ho.vs.below hb) (ho.bs.below hb) hn hd
  have HDG := Lib.hid ho.bs.dig
  have hgg := gapH_le m.L
  have hss := h.short
  cases hm : mayO m.L o with
  | false =>
    have hE : addE m o = 1 := by unfold addE; rw [if_pos hm]
    have HE : Hid (addE m o = 1 ∧ addV m o = (0, 0) ∧ addM m o = m) := Lib.hid ⟨hE, by unfold addV; rw [if_neg (by rw [hE]; decide)], by unfold addM; rw [if_neg (by rw [hE]; decide)]⟩
    rw [HE.out.1, HE.out.2.1, HE.out.2.2]
    rw [hm] at HM
    generalize o.k = k at *
    clear h ho hm hE HFU HCO hx1 hx2 hsz
    go_enter Tryz.func50, Tryz.ntmps50
    go_upto_region 1 with fail
    generalize (w.alloc (.cells #[.int .i64 k, .slice q n c, .slice p d e] 103)).alloc (.cells #[.int .i64 0, .int .i64 0] 36) = W at *
    have hsz := HSZ.out
    have z0 := cell_of_row _ _ 0 _ _ _ HX1.out
    have z1 := cell_of_row _ _ 1 _ _ _ HX1.out
    have z2 := cell_of_row _ _ 2 _ _ _ HX1.out
    simp at z0 z1 z2
    go_wp2_with (go_at_call 75; with_reducible refine (HM.out _ HB0.out).mono ?_; rintro ex w2 ⟨rfl, hb2⟩; have hx3 := (hb2.block (w.heap.size + 1) (by omega)).trans HX2.out; have y0 := cell_of_row _ _ 0 _ _ _ hx3; have y1 := cell_of_row _ _ 1 _ _ _ hx3; have f0 := frozen_of_row _ _ 0 _ _ hx3; have f1 := frozen_of_row _ _ 1 _ _ hx3; simp at y0 y1)
    have hF := two_row _ _ _ _ _ (.int .i64 0) (.int .i64 0) hx3
    have HBW : Hid (Below w.heap.size w ((w2.setCell ⟨w.heap.size + 1, 0, none⟩ (.int .i64 0)).setCell ⟨w.heap.size + 1, 1, none⟩ (.int .i64 0))) := Lib.hid (((HB0.out.trans (hb2.mono (by omega))).setCell (by show w.heap.size ≤ w.heap.size + 1; omega) _).setCell (by show w.heap.size ≤ w.heap.size + 1; omega) _)
    generalize (w2.setCell ⟨w.heap.size + 1, 0, none⟩ (.int .i64 0)).setCell ⟨w.heap.size + 1, 1, none⟩ (.int .i64 0) = V at *
    have v0 := cell_of_row _ _ 0 _ _ _ hF
    have v1 := cell_of_row _ _ 1 _ _ _ hF
    simp at v0 v1
    exact bodyPost_ret (v := .tuple #[.agg #[.int .i64 0, .int .i64 0], .int .i64 1]) (by simp [results, Tryz.results50, go_sem, v0, v1]) rfl ⟨rfl, WentH.below HP.out.hep HBW.out⟩
  | true =>
    rw [hm] at HM
    by_cases hf : m.lim ≤ liveN m.L
    · have hE : addE m o = 8 := by unfold addE; rw [if_neg (by rw [hm]; decide), if_pos hf]
      have HE : Hid (addE m o = 8 ∧ addV m o = (0, 0) ∧ addM m o = m) := Lib.hid ⟨hE, by unfold addV; rw [if_neg (by rw [hE]; decide)], by unfold addM; rw [if_neg (by rw [hE]; decide)]⟩
      rw [HE.out.1, HE.out.2.1, HE.out.2.2]
      rw [show decide (m.lim ≤ liveN m.L) = true from decide_eq_true hf] at HFU
      generalize o.k = k at *
      clear h ho hm hE HCO hx1 hx2 hsz hf
      go_enter Tryz.func50, Tryz.ntmps50
      go_upto_region 1 with fail
      generalize (w.alloc (.cells #[.int .i64 k, .slice q n c, .slice p d e] 103)).alloc (.cells #[.int .i64 0, .int .i64 0] 36) = W at *
      have hsz := HSZ.out
      have z0 := cell_of_row _ _ 0 _ _ _ HX1.out
      have z1 := cell_of_row _ _ 1 _ _ _ HX1.out
      have z2 := cell_of_row _ _ 2 _ _ _ HX1.out
      simp at z0 z1 z2
      skip
      go_wp2_with (go_at_call 75; with_reducible refine (HM.out _ HB0.out).mono ?_; rintro ex w2 ⟨rfl, hb2⟩; have HB2 := Lib.hid (HB0.out.trans (hb2.mono (by omega))); have hx3 := (hb2.block (w.heap.size + 1) (by omega)).trans HX2.out)
      refine (HFU.out _ HB2.out).mono ?_
      rintro ex w3 ⟨rfl, hb3⟩
      have hx4 := (hb3.block (w.heap.size + 1) (lt_of_block hx3)).trans hx3
      have y0 := cell_of_row _ _ 0 _ _ _ hx4
      have y1 := cell_of_row _ _ 1 _ _ _ hx4
      have f0 := frozen_of_row _ _ 0 _ _ hx4
      have f1 := frozen_of_row _ _ 1 _ _ hx4
      simp at y0 y1
      have hF := two_row _ _ _ _ _ (.int .i64 0) (.int .i64 0) hx4
      have HBW : Hid (Below w.heap.size w ((w3.setCell ⟨w.heap.size + 1, 0, none⟩ (.int .i64 0)).setCell ⟨w.heap.size + 1, 1, none⟩ (.int .i64 0))) := Lib.hid (((HB2.out.trans (hb3.mono HB2.out.size)).setCell (by show w.heap.size ≤ w.heap.size + 1; omega) _).setCell (by show w.heap.size ≤ w.heap.size + 1; omega) _)
      go_wp2_with fail
      generalize (w3.setCell ⟨w.heap.size + 1, 0, none⟩ (.int .i64 0)).setCell ⟨w.heap.size + 1, 1, none⟩ (.int .i64 0) = V at *
      have v0 := cell_of_row _ _ 0 _ _ _ hF
      have v1 := cell_of_row _ _ 1 _ _ _ hF
      simp at v0 v1
      exact bodyPost_ret (v := .tuple #[.agg #[.int .i64 0, .int .i64 0], .int .i64 8]) (by simp [results, Tryz.results50, go_sem, v0, v1]) rfl ⟨rfl, WentH.below HP.out.hep HBW.out⟩
    · have hE : addE m o = 0 := by unfold addE; rw [if_neg (by rw [hm]; decide), if_neg hf]
      have HE : Hid (addE m o = 0 ∧ addV m o = (8, (gapH m.L : Int)) ∧ addM m o = m.lay (newCl o)) := Lib.hid ⟨hE, by unfold addV; rw [if_pos hE], by unfold addM; rw [if_pos hE]⟩
      rw [HE.out.1, HE.out.2.1, HE.out.2.2]
      rw [show decide (m.lim ≤ liveN m.L) = false from decide_eq_false hf] at HFU
      have HLT : Hid (liveN m.L < m.lim) := Lib.hid (by omega)
      have HK : Hid (∃ k, o.k = k) := Lib.hid ⟨_, rfl⟩
      obtain ⟨k, HK⟩ : ∃ k, Hid (o.k = k) := ⟨_, Lib.hid rfl⟩
      obtain ⟨G, HG⟩ : ∃ G, Hid (gapH m.L = G) := ⟨_, Lib.hid rfl⟩
      have hgl : G ≤ 16384 := by have := HG.out; omega
      rw [HK.out] at HB0 HX1 HX2 HSZ HM HCO ⊢
      rw [HG.out]
      clear h ho hm hE hx1 hx2 hsz hf hgg hss
      go_enter Tryz.func50, Tryz.ntmps50
      go_upto_region 1 with fail
      generalize (w.alloc (.cells #[.int .i64 k, .slice q n c, .slice p d e] 103)).alloc (.cells #[.int .i64 0, .int .i64 0] 36) = W at *
      have hsz := HSZ.out
      have z0 := cell_of_row _ _ 0 _ _ _ HX1.out
      have z1 := cell_of_row _ _ 1 _ _ _ HX1.out
      have z2 := cell_of_row _ _ 2 _ _ _ HX1.out
      simp at z0 z1 z2
      skip
      go_wp2_with (go_at_call 75; with_reducible refine (HM.out _ HB0.out).mono ?_; rintro ex w2 ⟨rfl, hb2⟩; have HB2 := Lib.hid (HB0.out.trans (hb2.mono (by omega))); have hx3 := (hb2.block (w.heap.size + 1) (by omega)).trans HX2.out; have hy3 := (hb2.block w.heap.size (by omega)).trans HX1.out)
      refine (HFU.out _ HB2.out).mono ?_
      rintro ex w3 ⟨rfl, hb3⟩
      have hx4 := (hb3.block (w.heap.size + 1) (lt_of_block hx3)).trans hx3
      have hy4 := (hb3.block w.heap.size (lt_of_block hy3)).trans hy3
      have HB3 := Lib.hid (HB2.out.trans (hb3.mono HB2.out.size))
      have y0 := cell_of_row _ _ 0 _ _ _ hy4
      have y1 := cell_of_row _ _ 1 _ _ _ hy4
      have y2 := cell_of_row _ _ 2 _ _ _ hy4
      simp at y0 y1 y2
      clear z0 z1 z2 hb2 hb3 hx3 hy3 HM HFU
      go_wp2_with (go_at_call 79; with_reducible refine (HCO.out _ HB3.out).mono ?_; rintro ex w4 ⟨vv, vb, rfl, hcp⟩; obtain ⟨qa, ca, rfl⟩ := own_form hcp.vs; obtain ⟨qb, cb, rfl⟩ := own_form hcp.bs)
      have HB4 := Lib.hid (HB3.out.trans (hcp.below.mono HB3.out.size))
      have hca0 := hcp.celAt HDG.out 0 false true
      have hbk := hcp.blk
      rw [HK.out] at hca0
      have hb5 : Below w4.heap.size w4 (w4.alloc (.cells #[.int .i64 k, .slice qa o.vs.length ca, .slice qb o.bs.length cb, .int .i64 0, .bool false, .bool true] 105)) := (Below.refl _ _).alloc (Nat.le_refl _) _
      have HB5 := Lib.hid (HB4.out.trans (hb5.mono HB4.out.size))
      have hp5 := HP.out.below HB5.out
      have hx5 := (hb5.block (w.heap.size + 1) (Nat.lt_of_lt_of_le (lt_of_block hx4) hcp.below.size)).trans ((hcp.below.block _ (lt_of_block hx4)).trans hx4)
      have h3s : w.heap.size + 2 ≤ w3.heap.size := by have := lt_of_block hx4; omega
      have hfoot : ∀ k2, blkP ((w4.heap.size, .slice qa o.vs.length ca, .slice qb o.bs.length cb) : Pos) k2 → ¬ footH g vr mb S k2 := fun k2 hk hf => by
        have h1 := hbk k2 hk
        have h2 := HP.out.lt k2 hf
        omega
      have HLAY := Lib.hid (hp5.lay (x := (w4.heap.size, .slice qa o.vs.length ca, .slice qb o.bs.length cb)) (c := newCl o) hca0 hfoot rfl HLT.out)
      rw [HG.out] at HLAY
      have HBK := Lib.hid hbk
      clear hca0 hfoot hp5 hb5 hbk hx4 hy4 y0 y1 y2
      generalize w4.alloc (.cells #[.int .i64 k, .slice qa o.vs.length ca, .slice qb o.bs.length cb, .int .i64 0, .bool false, .bool true] 105) = w5 at *
      refine HLAY.out.mono ?_
      rintro ex w6 ⟨rfl, vr', hp6, hch⟩
      rw [HG.out] at hp6 hch
      have hnf : ∀ j, j < 2 → ¬ (footH g vr mb S (w.heap.size + j) ∨ blkP ((w4.heap.size, .slice qa o.vs.length ca, .slice qb o.bs.length cb) : Pos) (w.heap.size + j)) := fun j hj hh => by
        rcases hh with hh | hh
        · have := HP.out.lt _ hh; omega
        · have := HBK.out _ hh; omega
      have hx6 := (hch.block (w.heap.size + 1) (lt_of_block hx5) (hnf 1 (by omega))).trans hx5
      have HP6 := Lib.hid hp6
      have HCH : Hid (Chp (footH g vr mb S) (footH g vr' mb (putS S G (some (w4.heap.size, .slice qa o.vs.length ca, .slice qb o.bs.length cb)))) w w6) := Lib.hid (by
        refine ⟨hch.os.trans HB5.out.os, hch.tape.trans HB5.out.tape, hch.output.trans HB5.out.output, Nat.le_trans HB5.out.size hch.size, fun k2 hk hf => ?_, fun k2 hk => ?_⟩
        · refine (hch.block k2 (Nat.lt_of_lt_of_le hk HB5.out.size) (fun hh => ?_)).trans (HB5.out.block k2 hk)
          rcases hh with hh | hh
          · exact hf hh
          · have := HBK.out _ hh; omega
        · rcases hch.fresh k2 hk with (hh | hh) | hh
          · exact .inl hh
          · exact .inr (by have := HBK.out _ hh; omega)
          · exact .inr (Nat.le_trans HB5.out.size hh))
      clear hp6 hch hnf hx5
      go_wp2_with (go_at_call 77; with_reducible refine (refTo_any (G : Int) _).mono ?_; rintro ex w7 ⟨rfl, hb7⟩; have hx7 := (hb7.block (w.heap.size + 1) (lt_of_block hx6)).trans hx6; have y0 := cell_of_row _ _ 0 _ _ _ hx7; have y1 := cell_of_row _ _ 1 _ _ _ hx7; have f0 := frozen_of_row _ _ 0 _ _ hx7; have f1 := frozen_of_row _ _ 1 _ _ hx7; simp at y0 y1)
      have hF := two_row _ _ _ _ _ (.int .i64 8) (.int .i64 (G : Int)) hx7
      have hnb : ∀ k2, footH g vr' mb (putS S G (some (w4.heap.size, .slice qa o.vs.length ca, .slice qb o.bs.length cb))) k2 → k2 ≠ w.heap.size + 1 := fun k2 hk e2 => by
        subst e2
        exact HCH.out.fresh _ hk |>.elim (fun hh => by have := HP.out.lt _ hh; omega) (fun hh => by
          have h1 := HP6.out.lt _ hk
          rcases hk with hk | hk | hk | ⟨i2, x2, hx2, hk⟩
          · exact absurd (HP.out.lt g (.inl rfl)) (by omega)
          · obtain ⟨cur, hc⟩ := own_head HP6.out.row hk
            exact ne_of_ty hc hx6 (by decide) rfl
          · exact absurd (HP.out.lt mb (.inr (.inr (.inl rfl)))) (by omega)
          · unfold putS at hx2
            split at hx2
            · cases hx2; have := HBK.out _ hk; omega
            · exact absurd (HP.out.lt _ (.inr (.inr (.inr ⟨i2, x2, hx2, hk⟩)))) (by omega))
      have HW : Hid (WentH (footH g vr mb S) g (m.lay (newCl o)) w ((w7.setCell ⟨w.heap.size + 1, 0, none⟩ (.int .i64 8)).setCell ⟨w.heap.size + 1, 1, none⟩ (.int .i64 (G : Int)))) := Lib.hid (by
        refine ⟨_, ((HP6.out.below hb7).keep fun k2 hk => ?_).hep, ?_⟩
        · have h1 := hnb k2 hk
          exact (heap_setCell_other _ _ _ _ h1).trans (heap_setCell_other _ _ _ _ h1)
        · have hb8 : Below (w.heap.size) w7 ((w7.setCell ⟨w.heap.size + 1, 0, none⟩ (.int .i64 8)).setCell ⟨w.heap.size + 1, 1, none⟩ (.int .i64 (G : Int))) := ((Below.refl _ _).setCell (by show w.heap.size ≤ w.heap.size + 1; omega) _).setCell (by show w.heap.size ≤ w.heap.size + 1; omega) _
          have hch7 := HCH.out.trans (Chp.of_below hb7)
          exact ⟨hb8.os.trans hch7.os, hb8.tape.trans hch7.tape, hb8.output.trans hch7.output, Nat.le_trans hch7.size hb8.size, fun k2 hk hf => (hb8.block k2 hk).trans (hch7.block k2 hk hf), hch7.fresh⟩)
      clear hnb hx7 HP6 HCH
      go_wp2_with fail
      generalize (w7.setCell ⟨w.heap.size + 1, 0, none⟩ (.int .i64 8)).setCell ⟨w.heap.size + 1, 1, none⟩ (.int .i64 (G : Int)) = V at *
      have v0 := cell_of_row _ _ 0 _ _ _ hF
      have v1 := cell_of_row _ _ 1 _ _ _ hF
      simp at v0 v1
      exact bodyPost_ret (v := .tuple #[.agg #[.int .i64 8, .int .i64 (G : Int)], .int .i64 0]) (by simp [results, Tryz.results50, go_sem, v0, v1]) rfl ⟨rfl, HW.out⟩
end
end Go.Proofs.YthjjgpepgbfalaaGreatDoor
end
section
/-! An object dropped. -/
set_option maxRecDepth 20000
set_option linter.unusedSimpArgs false
namespace Go.Proofs.YthjjgpepgbfalaaGreatDoor
open Go.RowKit

section
variable {w w' : World} {g mb : Nat} {vr : Value} {S : Nat → Option Pos} {m : Hm}
end
/-- A call that lays no new block of the memory. -/
def WentD (F : Nat → Prop) (g : Nat) (m : Hm) (w w' : World) : Prop := ∃ F', Hep w' g F' m ∧ Chp F F' w w' ∧ ∀ k, F' k → F k
theorem WentD.below {w w' : World} {F : Nat → Prop} {g : Nat} {m : Hm} (h : Hep w g F m) (hb : Below w.heap.size w w') : WentD F g m w w' := ⟨F, h.below hb, Chp.of_below hb, fun _ h => h⟩
section
variable {w w' : World} {g mb : Nat} {vr : Value} {S : Nat → Option Pos} {m : Hm}
end
end Go.Proofs.YthjjgpepgbfalaaGreatDoor
end
section
/-! What is asked of an object that is there. -/
set_option maxRecDepth 20000
set_option linter.unusedSimpArgs false
namespace Go.Proofs.YthjjgpepgbfalaaGreatDoor
open Go.RowKit

/-- Nothing is away. -/
def Here (L : Pls) : Prop := ∀ i c, clAt L i = some c → c.away = false
/-- The object that a value refers to. -/
def obAt (L : Pls) (v : Int × Int) : Ob := if hasP L v = true then ((clAt L v.2.toNat).map Cl.o).getD ⟨0, [], []⟩ else ⟨0, [], []⟩
def hasE (L : Pls) (v : Int × Int) : Int := if hasP L v = true then 0 else 5
theorem obAt_some {L : Pls} {v : Int × Int} {c : Cl} (hv : hasP L v = true) (hc : clAt L v.2.toNat = some c) : obAt L v = c.o := by unfold obAt; rw [if_pos hv, hc]; rfl
theorem obAt_none {L : Pls} {v : Int × Int} (hv : hasP L v = false) : obAt L v = ⟨0, [], []⟩ := by unfold obAt; rw [if_neg (by rw [hv]; decide)]
theorem hasE_some {L : Pls} {v : Int × Int} (hv : hasP L v = true) : hasE L v = 0 := if_pos hv
theorem hasE_none {L : Pls} {v : Int × Int} (hv : hasP L v = false) : hasE L v = 5 := if_neg (by rw [hv]; decide)
section
variable {w w' : World} {g mb : Nat} {vr : Value} {S : Nat → Option Pos} {m : Hm}
set_option maxHeartbeats 800000 in
theorem Hp.there (h : Hp w g vr mb S m) (hh : Here m.L) (K N : Int) (h0 : -9223372036854775808 ≤ N) (h1 : N ≤ 9223372036854775807) :
    Calls Tryz.prog 40 #[.pointer (some ⟨g, 0, none⟩), .agg #[.int .i64 K, .int .i64 N]] w fun e w' => e = .returned (.tuple #[cellV S m.L (K, N), .int .i64 (hasE m.L (K, N))]) ∧ Below w.heap.size w w' := by
  have HB0 : Hid (Below w.heap.size w (w.alloc (.cells #[.int .i64 K, .int .i64 N] 36))) := Lib.hid ((Below.refl _ _).alloc (Nat.le_refl _) _)
  have HC : Hid (∀ w1, Below w.heap.size w w1 → Calls Tryz.prog 59 #[.pointer (some ⟨g, 0, none⟩), .agg #[.int .i64 K, .int .i64 N]] w1 fun e w' => e = .returned (cellV S m.L (K, N)) ∧ Below w1.heap.size w1 w') := Lib.hid fun w1 hb => (h.below hb).cell K N h0 h1
  cases hv : hasP m.L (K, N) with
  | false =>
    rw [hasE_none hv, cellV_nil _ _ _ hv]
    rw [cellV_nil _ _ _ hv] at HC
    clear h hv
    go_enter Tryz.func40, Tryz.ntmps40
    go_wp2_with (go_at_call 59; with_reducible refine (HC.out _ HB0.out).mono ?_; rintro e w1 ⟨rfl, hb⟩)
    go_ret2
    exact ⟨rfl, HB0.out.trans (hb.mono HB0.out.size)⟩
  | true =>
    obtain ⟨_, _, c, hc⟩ := hasP_iff.1 hv
    obtain ⟨x, hx, hca, e⟩ := h.cellV_some hv hc
    rw [hasE_some hv, e]
    rw [e] at HC
    have c4 := hca.c4
    rw [hh _ c hc] at c4
    clear h hv e hca
    go_enter Tryz.func40, Tryz.ntmps40
    go_wp2_with (go_at_call 59; with_reducible refine (HC.out _ HB0.out).mono ?_; rintro e w1 ⟨rfl, hb⟩; have y4 := ((HB0.out.trans (hb.mono HB0.out.size)).cell (World.block_lt_of_cell? w _ c4)).trans c4)
    go_ret2
    exact ⟨rfl, HB0.out.trans (hb.mono HB0.out.size)⟩
/-- 'there', in any world behind. -/
theorem Hp.thereH (h : Hp w g vr mb S m) (hh : Here m.L) (K N : Int) (h0 : -9223372036854775808 ≤ N) (h1 : N ≤ 9223372036854775807) :
    Hid (∀ w1, Below w.heap.size w w1 → Calls Tryz.prog 40 #[.pointer (some ⟨g, 0, none⟩), .agg #[.int .i64 K, .int .i64 N]] w1 fun e w' => e = .returned (.tuple #[cellV S m.L (K, N), .int .i64 (hasE m.L (K, N))]) ∧ Below w1.heap.size w1 w') :=
  Lib.hid fun _ hb => (h.below hb).there hh K N h0 h1
set_option maxHeartbeats 800000 in
theorem Hp.kind (h : Hp w g vr mb S m) (hh : Here m.L) (K N : Int) (h0 : -9223372036854775808 ≤ N) (h1 : N ≤ 9223372036854775807) :
    Calls Tryz.prog 22 #[.pointer (some ⟨g, 0, none⟩), .agg #[.int .i64 K, .int .i64 N]] w fun e w' => e = .returned (.tuple #[.int .i64 (obAt m.L (K, N)).k, .int .i64 (hasE m.L (K, N))]) ∧ Below w.heap.size w w' := by
  have HB0 : Hid (Below w.heap.size w (w.alloc (.cells #[.int .i64 K, .int .i64 N] 36))) := Lib.hid ((Below.refl _ _).alloc (Nat.le_refl _) _)
  have HC := h.thereH hh K N h0 h1
  cases hv : hasP m.L (K, N) with
  | false =>
    rw [hasE_none hv, obAt_none hv]
    rw [cellV_nil _ _ _ hv, hasE_none hv] at HC
    clear h hv
    go_enter Tryz.func22, Tryz.ntmps22
    go_wp2_with (go_at_call 40; with_reducible refine (HC.out _ HB0.out).mono ?_; rintro e w1 ⟨rfl, hb⟩)
    go_ret2
    exact ⟨rfl, HB0.out.trans (hb.mono HB0.out.size)⟩
  | true =>
    obtain ⟨_, _, c, hc⟩ := hasP_iff.1 hv
    obtain ⟨x, hx, hca, e⟩ := h.cellV_some hv hc
    rw [hasE_some hv, obAt_some hv hc]
    rw [e, hasE_some hv] at HC
    have c4 := hca.c0
    clear h hv e hca
    go_enter Tryz.func22, Tryz.ntmps22
    go_wp2_with (go_at_call 40; with_reducible refine (HC.out _ HB0.out).mono ?_; rintro e w1 ⟨rfl, hb⟩; have y4 := ((HB0.out.trans (hb.mono HB0.out.size)).cell (World.block_lt_of_cell? w _ c4)).trans c4)
    go_ret2
    exact ⟨rfl, HB0.out.trans (hb.mono HB0.out.size)⟩
set_option maxHeartbeats 800000 in
theorem Hp.size (h : Hp w g vr mb S m) (hh : Here m.L) (K N : Int) (h0 : -9223372036854775808 ≤ N) (h1 : N ≤ 9223372036854775807) :
    Calls Tryz.prog 37 #[.pointer (some ⟨g, 0, none⟩), .agg #[.int .i64 K, .int .i64 N]] w fun e w' => e = .returned (.tuple #[.int .i64 ((obAt m.L (K, N)).vs.length : Int), .int .i64 (hasE m.L (K, N))]) ∧ Below w.heap.size w w' := by
  have HB0 : Hid (Below w.heap.size w (w.alloc (.cells #[.int .i64 K, .int .i64 N] 36))) := Lib.hid ((Below.refl _ _).alloc (Nat.le_refl _) _)
  have HC := h.thereH hh K N h0 h1
  cases hv : hasP m.L (K, N) with
  | false =>
    rw [hasE_none hv, obAt_none hv]
    rw [cellV_nil _ _ _ hv, hasE_none hv] at HC
    clear h hv
    go_enter Tryz.func37, Tryz.ntmps37
    go_wp2_with (go_at_call 40; with_reducible refine (HC.out _ HB0.out).mono ?_; rintro e w1 ⟨rfl, hb⟩)
    go_ret2
    exact ⟨rfl, HB0.out.trans (hb.mono HB0.out.size)⟩
  | true =>
    obtain ⟨_, _, c, hc⟩ := hasP_iff.1 hv
    obtain ⟨x, hx, hca, e⟩ := h.cellV_some hv hc
    rw [hasE_some hv, obAt_some hv hc]
    rw [e, hasE_some hv] at HC
    have c4 := hca.c1
    obtain ⟨q, d, e1⟩ := hca.vform
    rw [e1] at c4
    generalize c.o.vs.length = n at *
    clear h hv e hca e1
    go_enter Tryz.func37, Tryz.ntmps37
    go_wp2_with (go_at_call 40; with_reducible refine (HC.out _ HB0.out).mono ?_; rintro e w1 ⟨rfl, hb⟩; have y4 := ((HB0.out.trans (hb.mono HB0.out.size)).cell (World.block_lt_of_cell? w _ c4)).trans c4)
    go_ret2
    exact ⟨rfl, HB0.out.trans (hb.mono HB0.out.size)⟩
end
end Go.Proofs.YthjjgpepgbfalaaGreatDoor
end
section
/-! An object's value; an object, copied. -/
set_option maxRecDepth 20000
set_option linter.unusedSimpArgs false
namespace Go.Proofs.YthjjgpepgbfalaaGreatDoor
open Go.RowKit

def atE (L : Pls) (v : Int × Int) (i : Int) : Int := if hasP L v = false then 5 else if i < 0 ∨ ((obAt L v).vs.length : Int) ≤ i then 7 else 0
def atV (L : Pls) (v : Int × Int) (i : Int) : Int × Int := if atE L v i = 0 then (obAt L v).vs.getD i.toNat (0, 0) else (0, 0)
section
variable {w w' : World} {g mb : Nat} {vr : Value} {S : Nat → Option Pos} {m : Hm}
/-- The end of At, where nothing is told. -/
theorem two_zero {W w : World} {b : Nat} (hB : Below w.heap.size w W) (hb : w.heap.size ≤ b) (hx : W.heap[b]? = some (.cells #[.int .i64 0, .int .i64 0] 36 (0, 0))) (x y : Int) :
    ((W.setCell ⟨b, 0, none⟩ (.int .i64 x)).setCell ⟨b, 1, none⟩ (.int .i64 y)).heap[b]? = some (.cells #[.int .i64 x, .int .i64 y] 36 (0, 0)) ∧ Below w.heap.size w ((W.setCell ⟨b, 0, none⟩ (.int .i64 x)).setCell ⟨b, 1, none⟩ (.int .i64 y)) :=
  ⟨two_row W b _ _ _ _ _ hx, (hB.setCell hb _).setCell hb _⟩
set_option maxHeartbeats 3200000 in
theorem Hp.atI (h : Hp w g vr mb S m) (hh : Here m.L) (K N : Int) (h0 : -9223372036854775808 ≤ N) (h1 : N ≤ 9223372036854775807) (i : Int) :
    Calls Tryz.prog 23 #[.pointer (some ⟨g, 0, none⟩), .agg #[.int .i64 K, .int .i64 N], .int .i64 i] w fun e w' => e = .returned (.tuple #[valV (atV m.L (K, N) i), .int .i64 (atE m.L (K, N) i)]) ∧ Below w.heap.size w w' := by
  have HB0 : Hid (Below w.heap.size w ((w.alloc (.cells #[.int .i64 K, .int .i64 N] 36)).alloc (.cells #[.int .i64 0, .int .i64 0] 36))) := Lib.hid (((Below.refl _ _).alloc (Nat.le_refl _) _).alloc (by simp) _)
  have hx2 : ((w.alloc (.cells #[.int .i64 K, .int .i64 N] 36)).alloc (.cells #[.int .i64 0, .int .i64 0] 36)).heap[w.heap.size + 1]? = some (.cells #[.int .i64 0, .int .i64 0] 36 (0, 0)) := heap_alloc2_new w _ _
  have HX2 := Lib.hid hx2
  have hsz : ((w.alloc (.cells #[.int .i64 K, .int .i64 N] 36)).alloc (.cells #[.int .i64 0, .int .i64 0] 36)).heap.size = w.heap.size + 2 := by simp
  have HSZ := Lib.hid hsz
  have HC := h.thereH hh K N h0 h1
  clear hx2 hsz
  cases hv : hasP m.L (K, N) with
  | false =>
    have HE : Hid (atE m.L (K, N) i = 5) := Lib.hid (if_pos hv)
    have HV : Hid (atV m.L (K, N) i = (0, 0)) := Lib.hid (if_neg (by rw [HE.out]; decide))
    rw [HE.out, HV.out]
    rw [cellV_nil _ _ _ hv, hasE_none hv] at HC
    clear h hv
    go_enter Tryz.func23, Tryz.ntmps23
    go_upto_region 2 with (go_at_call 40; with_reducible refine (HC.out _ HB0.out).mono ?_; rintro e w1 ⟨rfl, hb⟩)
    have hx3 := (hb.block (w.heap.size + 1) (by have := HSZ.out; omega)).trans HX2.out
    have HB1 := Lib.hid (HB0.out.trans (hb.mono (by have := HSZ.out; omega)))
    have y0 := cell_of_row _ _ 0 _ _ _ hx3
    have y1 := cell_of_row _ _ 1 _ _ _ hx3
    have f0 := frozen_of_row _ _ 0 _ _ hx3
    have f1 := frozen_of_row _ _ 1 _ _ hx3
    simp at y0 y1
    obtain ⟨hF, hBF⟩ := two_zero HB1.out (by omega) hx3 0 0
    have HBF := Lib.hid hBF
    clear hBF hb
    go_wp2_with fail
    generalize (w1.setCell ⟨w.heap.size + 1, 0, none⟩ (.int .i64 0)).setCell ⟨w.heap.size + 1, 1, none⟩ (.int .i64 0) = V at *
    have v0 := cell_of_row _ _ 0 _ _ _ hF
    have v1 := cell_of_row _ _ 1 _ _ _ hF
    simp at v0 v1
    exact bodyPost_ret (v := .tuple #[.agg #[.int .i64 0, .int .i64 0], .int .i64 5]) (by simp [results, Tryz.results23, go_sem, v0, v1]) rfl ⟨rfl, HBF.out⟩
  | true =>
    obtain ⟨_, _, c, hc⟩ := hasP_iff.1 hv
    obtain ⟨x, hx, hca, e⟩ := h.cellV_some hv hc
    rw [e, hasE_some hv] at HC
    have c4 := hca.c1
    have hvs := hca.vs
    obtain ⟨q, d, e1⟩ := hca.vform
    rw [e1] at c4 hvs
    have HVL := Lib.hid (Vls.own hvs)
    have HA : Hid ((obAt m.L (K, N)).vs = c.o.vs) := Lib.hid (by rw [obAt_some hv hc])
    obtain ⟨n, HN⟩ : ∃ n, Hid (c.o.vs.length = n) := ⟨_, Lib.hid rfl⟩
    rw [HN.out] at c4 HVL
    have HY : Hid (∀ w1, Below w.heap.size w w1 → w1.cell? ⟨x.1, 1, none⟩ = some (.slice q n d)) := Lib.hid fun w1 hb => (hb.cell (World.block_lt_of_cell? w _ c4)).trans c4
    by_cases hr : i < 0 ∨ (n : Int) ≤ i
    · have HE : Hid (atE m.L (K, N) i = 7) := Lib.hid (by unfold atE; rw [if_neg (by rw [hv]; decide), HA.out, HN.out, if_pos hr])
      have HV : Hid (atV m.L (K, N) i = (0, 0)) := Lib.hid (if_neg (by rw [HE.out]; decide))
      rw [HE.out, HV.out]
      clear h hv e hca hc e1 hvs c4
      have fin : ∀ (d1 : decide (i < 0) = true ∨ (decide (i < 0) = false ∧ decide ((n : Int) ≤ i) = true)), Calls Tryz.prog 23 #[.pointer (some ⟨g, 0, none⟩), .agg #[.int .i64 K, .int .i64 N], .int .i64 i] w fun e w' => e = .returned (.tuple #[valV (0, 0), .int .i64 7]) ∧ Below w.heap.size w w' := by
        intro d1
        rcases d1 with d1 | ⟨d1, d2⟩
        · go_enter Tryz.func23, Tryz.ntmps23
          go_upto_region 2 with (go_at_call 40; with_reducible refine (HC.out _ HB0.out).mono ?_; rintro e w1 ⟨rfl, hb⟩)
          have hx3 := (hb.block (w.heap.size + 1) (by have := HSZ.out; omega)).trans HX2.out
          have HB1 := Lib.hid (HB0.out.trans (hb.mono (by have := HSZ.out; omega)))
          have y0 := cell_of_row _ _ 0 _ _ _ hx3
          have y1 := cell_of_row _ _ 1 _ _ _ hx3
          have f0 := frozen_of_row _ _ 0 _ _ hx3
          have f1 := frozen_of_row _ _ 1 _ _ hx3
          simp at y0 y1
          obtain ⟨hF, hBF⟩ := two_zero HB1.out (by omega) hx3 0 0
          have HBF := Lib.hid hBF
          clear hBF hb
          go_wp2_with fail
          generalize (w1.setCell ⟨w.heap.size + 1, 0, none⟩ (.int .i64 0)).setCell ⟨w.heap.size + 1, 1, none⟩ (.int .i64 0) = V at *
          have v0 := cell_of_row _ _ 0 _ _ _ hF
          have v1 := cell_of_row _ _ 1 _ _ _ hF
          simp at v0 v1
          exact bodyPost_ret (v := .tuple #[.agg #[.int .i64 0, .int .i64 0], .int .i64 7]) (by simp [results, Tryz.results23, go_sem, v0, v1]) rfl ⟨rfl, HBF.out⟩
        · go_enter Tryz.func23, Tryz.ntmps23
          go_upto_region 2 with (go_at_call 40; with_reducible refine (HC.out _ HB0.out).mono ?_; rintro e w1 ⟨rfl, hb⟩)
          have hx3 := (hb.block (w.heap.size + 1) (by have := HSZ.out; omega)).trans HX2.out
          have HB1 := Lib.hid (HB0.out.trans (hb.mono (by have := HSZ.out; omega)))
          have y0 := cell_of_row _ _ 0 _ _ _ hx3
          have y1 := cell_of_row _ _ 1 _ _ _ hx3
          have y4 := HY.out _ HB1.out
          have f0 := frozen_of_row _ _ 0 _ _ hx3
          have f1 := frozen_of_row _ _ 1 _ _ hx3
          simp at y0 y1
          obtain ⟨hF, hBF⟩ := two_zero HB1.out (by omega) hx3 0 0
          have HBF := Lib.hid hBF
          clear hBF hb
          go_wp2_with fail
          generalize (w1.setCell ⟨w.heap.size + 1, 0, none⟩ (.int .i64 0)).setCell ⟨w.heap.size + 1, 1, none⟩ (.int .i64 0) = V at *
          have v0 := cell_of_row _ _ 0 _ _ _ hF
          have v1 := cell_of_row _ _ 1 _ _ _ hF
          simp at v0 v1
          exact bodyPost_ret (v := .tuple #[.agg #[.int .i64 0, .int .i64 0], .int .i64 7]) (by simp [results, Tryz.results23, go_sem, v0, v1]) rfl ⟨rfl, HBF.out⟩
      apply fin
      by_cases h2 : i < 0
      · exact .inl (decide_eq_true h2)
      · exact .inr ⟨decide_eq_false h2, decide_eq_true (hr.resolve_left h2)⟩
    · have HE : Hid (atE m.L (K, N) i = 0) := Lib.hid (by unfold atE; rw [if_neg (by rw [hv]; decide), HA.out, HN.out, if_neg hr])
      obtain ⟨j, rfl⟩ : ∃ j : Nat, i = (j : Int) := ⟨i.toNat, by omega⟩
      have hj : j < n := by omega
      have HV : Hid (atV m.L (K, N) (j : Int) = c.o.vs.getD j (0, 0)) := Lib.hid (by unfold atV; rw [if_pos HE.out, HA.out, Int.toNat_natCast])
      rw [HE.out, HV.out]
      have d1 : decide ((j : Int) < 0) = false := by simp
      have d2 : decide ((n : Int) ≤ (j : Int)) = false := by simp; omega
      have d3 : decide (n ≤ j) = false := by simp; omega
      have hjn : (j : Int) < (n : Int) := by omega
      obtain ⟨b, o', eq, hcell⟩ := HVL.out.2 (by omega)
      subst eq
      obtain ⟨a1, a2⟩ := hcell j hj
      have HA1 := Lib.hid a1
      have HA2 := Lib.hid a2
      clear h hv e hca hc e1 hvs c4 hr hcell a1 a2 HE HV HA HVL
      generalize c.o.vs.getD j (0, 0) = y at *
      obtain ⟨yk, yn⟩ := y
      go_enter Tryz.func23, Tryz.ntmps23
      go_upto_region 2 with (go_at_call 40; with_reducible refine (HC.out _ HB0.out).mono ?_; rintro e w1 ⟨rfl, hb⟩)
      have hx3 := (hb.block (w.heap.size + 1) (by have := HSZ.out; omega)).trans HX2.out
      have HB1 := Lib.hid (HB0.out.trans (hb.mono (by have := HSZ.out; omega)))
      have y0 := cell_of_row _ _ 0 _ _ _ hx3
      have y1 := cell_of_row _ _ 1 _ _ _ hx3
      have y4 := HY.out _ HB1.out
      have z1 := (HB1.out.cell (World.block_lt_of_cell? w _ HA1.out)).trans HA1.out
      have z2 := (HB1.out.cell (World.block_lt_of_cell? w _ HA2.out)).trans HA2.out
      have f0 := frozen_of_row _ _ 0 _ _ hx3
      have f1 := frozen_of_row _ _ 1 _ _ hx3
      simp at y0 y1 z1 z2
      obtain ⟨hF, hBF⟩ := two_zero HB1.out (by omega) hx3 yk yn
      have HBF := Lib.hid hBF
      clear hBF hb
      go_wp2_with fail
      generalize (w1.setCell ⟨w.heap.size + 1, 0, none⟩ (.int .i64 yk)).setCell ⟨w.heap.size + 1, 1, none⟩ (.int .i64 yn) = V at *
      have v0 := cell_of_row _ _ 0 _ _ _ hF
      have v1 := cell_of_row _ _ 1 _ _ _ hF
      simp at v0 v1
      exact bodyPost_ret (v := .tuple #[.agg #[.int .i64 yk, .int .i64 yn], .int .i64 0]) (by simp [results, Tryz.results23, go_sem, v0, v1]) rfl ⟨rfl, HBF.out⟩
end
end Go.Proofs.YthjjgpepgbfalaaGreatDoor
end
section
/-! An object, copied. -/
set_option maxRecDepth 20000
set_option linter.unusedSimpArgs false
namespace Go.Proofs.YthjjgpepgbfalaaGreatDoor
open Go.RowKit

theorem Cpy.zero (w : World) : Cpy w w ⟨0, [], []⟩ (.slice none 0 0) (.slice none 0 0) := ⟨World.ownsRow_nil _ _ _ _, World.ownsRow_nil _ _ _ _, Below.refl _ _⟩
section
variable {w w' : World} {g mb : Nat} {vr : Value} {S : Nat → Option Pos} {m : Hm}
end
end Go.Proofs.YthjjgpepgbfalaaGreatDoor
end
