/- A step of the law: it adds. -/
import Derived.Test.YthmajccajmnfcaaLJt
set_option maxRecDepth 20000
set_option linter.unusedSimpArgs false
namespace Go.Proofs.Ythmajccajmnfcaa
open Go.RowKit

/-- A step, as it is handed on. -/
abbrev opA (kind i v1 v2 x1 x2 : Int) (b : Nat) (k : Int) (q : Option Addr) (n c : Nat) (p : Option Addr) (d e : Nat) : Array Value :=
  #[.int .i64 kind, .int .i64 i, .int .i64 v1, .int .i64 v2, .int .i64 x1, .int .i64 x2, .int .u8 (b : Int), .int .i64 k, .slice q n c, .slice p d e]
section
variable {w w' : World} {g : Nat} {F F' X : Nat → Prop} {m m' : Hm} {vl vl' : Value} {L L' : Pls} {lim : Int}
theorem Jt.form (h : Jt w g F X m vl L lim) : ∃ q n c, vl = .slice q n c := by
  obtain ⟨W, hr⟩ := h.row
  obtain ⟨q, c, e⟩ := hr.form
  exact ⟨q, _, c, e⟩
/-- Boxes that lie apart from the memory stay. -/
theorem box_stay {F F' : Nat → Prop} {w w' : World} {b : Nat} {o : Obj} (hc : Chp F F' w w') (hb : w.heap[b]? = some o) (hF : ¬ F b) : w'.heap[b]? = some o ∧ ¬ F' b := by
  have hlt : b < w.heap.size := (Array.getElem?_eq_some_iff.1 hb).1
  exact ⟨(hc.block b hlt hF).trans hb, hc.out hlt hF⟩
theorem RHp.chpG {w w' : World} {F F' X : Nat → Prop} {vl : Value} {W : Nat → Value × Value} {L : Pls} {a n : Nat} (h : RHp w (Gx (Fx F X) a n) vl W L) (hc : Chp F F' w w') : RHp w' (Gx (Fx F' X) a n) vl W L :=
  h.keep fun b hb hf => ⟨hc.block b hb (fun e => hf (.inl (.inl e))), fun e => e.elim (fun e => e.elim (fun e => hc.out hb (fun e2 => hf (.inl (.inl e2))) e) (fun e => hf (.inl (.inr e)))) (fun e => hf (.inr e))⟩
theorem RHp.unG {w w' : World} {F : Nat → Prop} {vl : Value} {W : Nat → Value × Value} {L : Pls} {a n : Nat} (h : RHp w (Gx F a n) vl W L) (hb : ∀ b, b < w.heap.size → ¬ (a ≤ b ∧ b < a + n) → w'.heap[b]? = w.heap[b]?) : RHp w' F vl W L :=
  h.keep fun b hl hf => ⟨hb b hl (fun e => hf (.inr e)), fun e => hf (.inl e)⟩
theorem Jt.gx (h : Jt w g F X m vl L lim) (n : Nat) : ∃ W, RHp w (Gx (Fx F X) w.heap.size n) vl W L := by
  obtain ⟨W, hr⟩ := h.row
  exact ⟨W, hr.gx n⟩
/-- The end of a step: the box of the answer is filled. -/
theorem Jt.ends {w w5 V : World} {g : Nat} {F F4 X : Nat → Prop} {m4 : Hm} {vl2 : Value} {W2 : Nat → Value × Value} {L2 : Pls} {lim : Int} {a A n : Nat} (hh : Hep w5 g F4 m4) (hr : RHp w5 (Gx (Fx F4 X) a n) vl2 W2 L2) (h1 : Here m4.L) (h2 : Sm m4.L) (h3 : Sm L2) (h4 : (L2.length : Int) ≤ lim) (h5 : lim ≤ 16000) (h6 : ∀ k, X k → k < w.heap.size)
    (hc : Chp F F4 w w5) (hA : a ≤ A ∧ A < a + n) (hnA : ¬ F4 A) (_hw : w.heap.size ≤ A) (hV : ∀ k, k ≠ A → V.heap[k]? = w5.heap[k]?) (ho : V.os = w5.os) (ht : V.tape = w5.tape) (hp : V.output = w5.output) (hs : V.heap.size = w5.heap.size) :
    Jt V g F4 X m4 vl2 L2 lim ∧ Chp F F4 w V :=
  ⟨⟨hh.keep fun k hk => hV k (fun e => hnA (by rw [← e]; exact hk)), ⟨W2, hr.unG fun b _ hb => hV b (fun e => hb (by rw [e]; exact hA))⟩, h1, h2, h3, h4, h5, fun k hk => by have := h6 k hk; have := hc.size; omega⟩,
   ⟨ho.trans hc.os, ht.trans hc.tape, hp.trans hc.output, by rw [hs]; exact hc.size, fun k hk hf => (hV k (by omega)).trans (hc.block k hk hf), hc.fresh⟩⟩
set_option maxHeartbeats 12800000 in
theorem step0 (h : Jt w g F X m vl L lim) (i v1 v2 x1 x2 : Int) (bb : Nat) (o : Ob) (q p : Option Addr) (n c d e : Nat) (ho : ObV w q n p d o) (hq : q = none → c = 0) (hp : p = none → e = 0) (hn : n ≤ 300) (hd : d ≤ 5000) :
    Calls Try.prog 30 #[.pointer (some ⟨g, 0, none⟩), .agg #[vl, .int .i64 lim], .agg (opA 0 i v1 v2 x1 x2 bb o.k q n c p d e)] w fun ex w' => StepR w w' g F X lim ex := by
  have HJ := Lib.hid h
  have HO := Lib.hid ho
  have hlim := h.lim
  obtain ⟨q0, n0, c0, rfl⟩ := h.form
  have HRA : Hid (∀ w1, Below w.heap.size w w1 → w.heap.size + 3 ≤ w1.heap.size → Calls Try.prog 41 #[.agg #[.slice q0 n0 c0, .int .i64 lim], .agg #[.int .i64 o.k, .slice q n c, .slice p d e]] w1 fun ex w' => ∃ v, ex = .returned (.tuple #[v, .agg #[.int .i64 (rAddV L lim o).1, .int .i64 (rAddV L lim o).2], .int .i64 (rAddE L lim o)]) ∧ RGoes w1 w' (Gx (Fx F X) w.heap.size 3) lim (rAddL L lim o) v) := Lib.hid fun w1 hb hs3 => by
    obtain ⟨W, hr⟩ := h.gx 3
    have hl := h.len
    exact (hr.below hb).add (by omega) (fun k hk => hk.elim (fun hk => Nat.lt_of_lt_of_le (h.flt k hk) hb.size) (fun hk => by omega)) lim o q p n c d e (ho.below hb).w hq hp (by omega) (by omega)
  have HHA : Hid (∀ w1, Below w.heap.size w w1 → Calls Try.prog 8 #[.pointer (some ⟨g, 0, none⟩), .agg #[.int .i64 o.k, .slice q n c, .slice p d e]] w1 fun ex w' => ex = .returned (.tuple #[.agg #[.int .i64 (addV m o).1, .int .i64 (addV m o).2], .int .i64 (addE m o)]) ∧ WentH F g (addM m o) w1 w') := Lib.hid fun w1 hb => by
    obtain ⟨vr, mb, S, hh, rfl⟩ := h.hep.below hb
    exact hh.add o q p n c d e (ho.below hb) (by omega) (by omega)
  have HLT := Lib.hid h.hep.lt
  have h3 := three_alloc w (.cells #[.slice q0 n0 c0, .int .i64 lim] 33) (.cells (opA 0 i v1 v2 x1 x2 bb o.k q n c p d e) 44) (.cells #[.slice none 0 0, .int .i64 0] 33)
  have H3 := Lib.hid h3
  clear h ho hq hp h3
  obtain ⟨k, HK⟩ : ∃ k, Hid (o.k = k) := ⟨_, Lib.hid rfl⟩
  rw [HK.out] at HRA HHA H3 ⊢
  generalize (rAddV L lim o).1 = ra1 at *
  generalize (rAddV L lim o).2 = ra2 at *
  generalize rAddE L lim o = rae at *
  generalize (addV m o).1 = ha1 at *
  generalize (addV m o).2 = ha2 at *
  generalize addE m o = hae at *
  unfold opA at H3 ⊢
  go_enter Try.func30, Try.ntmps30
  go_upto_region 1 with fail
  generalize ((w.alloc (.cells #[.slice q0 n0 c0, .int .i64 lim] 33)).alloc (.cells #[.int .i64 0, .int .i64 i, .int .i64 v1, .int .i64 v2, .int .i64 x1, .int .i64 x2, .int .u8 (bb : Int), .int .i64 k, .slice q n c, .slice p d e] 44)).alloc (.cells #[.slice none 0 0, .int .i64 0] 33) = W1 at *
  obtain ⟨hx0, hx1, hx2, hsz, hb1⟩ := H3.out
  have a0 := cell_of_row _ _ 0 _ _ _ hx0
  have a1 := cell_of_row _ _ 1 _ _ _ hx0
  have b0 := cell_of_row _ _ 0 _ _ _ hx1
  have b7 := cell_of_row _ _ 7 _ _ _ hx1
  have b8 := cell_of_row _ _ 8 _ _ _ hx1
  have b9 := cell_of_row _ _ 9 _ _ _ hx1
  simp at a0 a1 b0 b7 b8 b9
  go_wp2_with fail
  with_reducible refine (HRA.out _ hb1 (by omega)).mono ?_
  rintro ex w2 ⟨v2', rfl, vl2, W2, rfl, hr2, hb2⟩
  obtain ⟨q2, c2, rfl⟩ := hr2.form
  go_upto_region 4 with fail
  have HR3 := Lib.hid (hr2.below (b2 w2 (.cells #[.slice q2 (rAddL L lim o).length c2, .int .i64 lim] 33) (.cells #[.int .i64 ra1, .int .i64 ra2] 38)))
  have HL2 : Hid (∀ M, M = rAddL L lim o → Sm M ∧ (M.length : Int) ≤ lim) := Lib.hid fun M e => by rw [e]; exact ⟨radd_sm HJ.out.smx, radd_len HJ.out.len⟩
  have HB2 := Lib.hid (hb1.trans (hb2.mono (by omega)))
  have HB3 := Lib.hid (HB2.out.trans (Below.mono (b2 w2 (.cells #[.slice q2 (rAddL L lim o).length c2, .int .i64 lim] 33) (.cells #[.int .i64 ra1, .int .i64 ra2] 38)) HB2.out.size))
  have hs2 : w.heap.size + 3 ≤ w2.heap.size := by have := hb2.size; omega
  have hy1 := ((b2 w2 (.cells #[.slice q2 (rAddL L lim o).length c2, .int .i64 lim] 33) (.cells #[.int .i64 ra1, .int .i64 ra2] 38)).block _ (by omega)).trans ((hb2.block _ (by omega)).trans hx1)
  have hy2 := ((b2 w2 (.cells #[.slice q2 (rAddL L lim o).length c2, .int .i64 lim] 33) (.cells #[.int .i64 ra1, .int .i64 ra2] 38)).block _ (by omega)).trans ((hb2.block _ (by omega)).trans hx2)
  have hy8 := heap_alloc2_old w2 (.cells #[.slice q2 (rAddL L lim o).length c2, .int .i64 lim] 33) (.cells #[.int .i64 ra1, .int .i64 ra2] 38)
  have hy9 := heap_alloc2_new w2 (.cells #[.slice q2 (rAddL L lim o).length c2, .int .i64 lim] 33) (.cells #[.int .i64 ra1, .int .i64 ra2] 38)
  clear a0 a1 b0 b7 b8 b9 hx0 hx1 hx2 hb2 hb1 hr2 HRA H3
  generalize (rAddL L lim o).length = n2 at *
  generalize rAddL L lim o = L2 at *
  generalize (w2.alloc (.cells #[.slice q2 n2 c2, .int .i64 lim] 33)).alloc (.cells #[.int .i64 ra1, .int .i64 ra2] 38) = w3 at *
  have b7 := cell_of_row _ _ 7 _ _ _ hy1
  have b8 := cell_of_row _ _ 8 _ _ _ hy1
  have b9 := cell_of_row _ _ 9 _ _ _ hy1
  simp at b7 b8 b9
  go_wp2_with fail
  with_reducible refine (HHA.out _ HB3.out).mono ?_
  rintro ex w4 ⟨rfl, F4, hh4, hc4⟩
  have nF : ∀ k2, w.heap.size ≤ k2 → ¬ F k2 := fun k2 hk hf => by have := HLT.out k2 hf; omega
  have HH5 := Lib.hid (hh4.below ((Below.refl _ _).alloc (Nat.le_refl _) (.cells #[.int .i64 ha1, .int .i64 ha2] 38)))
  have HR5 := Lib.hid ((HR3.out.chpG hc4).below ((Below.refl _ _).alloc (Nat.le_refl _) (.cells #[.int .i64 ha1, .int .i64 ha2] 38)))
  have HC4 := Lib.hid (((Chp.of_below (F := F) HB3.out).trans hc4).trans (Chp.of_below ((Below.refl w4.heap.size w4).alloc (Nat.le_refl _) (.cells #[.int .i64 ha1, .int .i64 ha2] 38))))
  obtain ⟨hz2, nf2⟩ := box_stay hc4 hy2 (nF _ (by omega))
  obtain ⟨hz8, nf8⟩ := box_stay hc4 hy8 (nF _ (by omega))
  obtain ⟨hz9, nf9⟩ := box_stay hc4 hy9 (nF _ (by omega))
  have NF2 := Lib.hid nf2
  have hu2 := (heap_alloc_old w4 (.cells #[.int .i64 ha1, .int .i64 ha2] 38) (lt_of_block hz2)).trans hz2
  have hu8 := (heap_alloc_old w4 (.cells #[.int .i64 ha1, .int .i64 ha2] 38) (lt_of_block hz8)).trans hz8
  have hu9 := (heap_alloc_old w4 (.cells #[.int .i64 ha1, .int .i64 ha2] 38) (lt_of_block hz9)).trans hz9
  have hu11 := heap_alloc_new w4 (.cells #[.int .i64 ha1, .int .i64 ha2] 38)
  clear b7 b8 b9 hy1 hy2 hy8 hy9 hh4 hc4 hz2 hz8 hz9 nf2 nf8 nf9 HHA HR3 HB3 HB2
  go_upto_region 5 with fail
  generalize w4.alloc (.cells #[.int .i64 ha1, .int .i64 ha2] 38) = w5 at *
  have g0 := cell_of_row _ _ 0 _ _ _ hu8
  have g1 := cell_of_row _ _ 1 _ _ _ hu8
  have g2 := cell_of_row _ _ 0 _ _ _ hu9
  have g3 := cell_of_row _ _ 1 _ _ _ hu9
  have g4 := cell_of_row _ _ 0 _ _ _ hu11
  have g5 := cell_of_row _ _ 1 _ _ _ hu11
  have g6 := cell_of_row _ _ 0 _ _ _ hu2
  have g7 := cell_of_row _ _ 1 _ _ _ hu2
  have f6 := frozen_of_row _ _ 0 _ _ hu2
  have f7 := frozen_of_row _ _ 1 _ _ hu2
  simp at g0 g1 g2 g3 g4 g5 g6 g7
  have hNE := fun u => eqlV (ra1, ra2) (ha1, ha2) u
  have hGU := guardV
  have hF := two_row w5 (w.heap.size + 1 + 1) _ _ _ (.slice q2 n2 c2) (.int .i64 lim) hu2
  obtain ⟨bq, hbq⟩ : ∃ bq, decide (((ra1, ra2) : Int × Int) = (ha1, ha2)) = bq := ⟨_, rfl⟩
  rw [hbq] at hNE
  have HEND := Lib.hid (Jt.ends (V := ((w5.setCell ⟨w.heap.size + 1 + 1, 0, none⟩ (.slice q2 n2 c2)).setCell ⟨w.heap.size + 1 + 1, 1, none⟩ (.int .i64 lim)).drew) (A := w.heap.size + 1 + 1) HH5.out HR5.out (add_here HJ.out.here) (add_sm HJ.out.sm) (HL2.out _ rfl).1 (HL2.out _ rfl).2 HJ.out.lim HJ.out.xlt HC4.out ⟨by omega, by omega⟩ NF2.out (by omega) (fun k hk => (heap_setCell_other _ _ _ _ hk).trans (heap_setCell_other _ _ _ _ hk)) rfl rfl rfl (by simp))
  have hF' := Lib.hid hF
  clear hF
  cases bq with
  | true =>
    go_region
    go_wp2_with fail
    have v0 := cell_of_row _ _ 0 _ _ _ hF'.out
    have v1 := cell_of_row _ _ 1 _ _ _ hF'.out
    simp at v0 v1
    exact bodyPost_ret (v := .tuple #[.agg #[.slice q2 n2 c2, .int .i64 lim], .bool (rae == hae)]) (by simp [results, Try.results30, go_sem, v0, v1]) rfl ⟨_, _, _, _, _, rfl, HEND.out.1, HEND.out.2⟩
  | false =>
    go_region
    go_wp2_with fail
    have v0 := cell_of_row _ _ 0 _ _ _ hF'.out
    have v1 := cell_of_row _ _ 1 _ _ _ hF'.out
    simp at v0 v1
    exact bodyPost_ret (v := .tuple #[.agg #[.slice q2 n2 c2, .int .i64 lim], .bool false]) (by simp [results, Try.results30, go_sem, v0, v1]) rfl ⟨_, _, _, _, _, rfl, HEND.out.1, HEND.out.2⟩
end
end Go.Proofs.Ythmajccajmnfcaa
