/- The document's Add. -/
import Derived.Test.YtekmboolfjicbaaRWith
set_option maxRecDepth 20000
set_option linter.unusedSimpArgs false
namespace Go.Proofs.Ytekmboolfjicbaa
open Go.RowKit

def rAddE (L : Pls) (lim : Int) (o : Ob) : Int := if rMay L o = false then 1 else if lim ≤ (liveN L : Int) then 8 else 0
def rAddV (L : Pls) (lim : Int) (o : Ob) : Int × Int := if rAddE L lim o = 0 then (8, (gapH L : Int)) else (0, 0)
def rAddL (L : Pls) (lim : Int) (o : Ob) : Pls := if rAddE L lim o = 0 then setR L (gapH L) (some (newCl o)) else L
theorem four_alloc (w : World) (a b c d : Obj) : ((((w.alloc a).alloc b).alloc c).alloc d).heap[w.heap.size]? = some a ∧ ((((w.alloc a).alloc b).alloc c).alloc d).heap[w.heap.size + 1]? = some b ∧ ((((w.alloc a).alloc b).alloc c).alloc d).heap[w.heap.size + 1 + 1]? = some c ∧
    ((((w.alloc a).alloc b).alloc c).alloc d).heap[w.heap.size + 1 + 1 + 1]? = some d ∧ ((((w.alloc a).alloc b).alloc c).alloc d).heap.size = w.heap.size + 4 ∧ Below w.heap.size w ((((w.alloc a).alloc b).alloc c).alloc d) := by
  refine ⟨?_, ?_, ?_, ?_, by simp, ((b2 w a b).alloc (by simp; omega) _).alloc (by simp; omega) _⟩
  · exact (heap_alloc_old _ _ (by simp <;> omega)).trans ((heap_alloc_old _ _ (by simp <;> omega)).trans (heap_alloc2_old w a b))
  · exact (heap_alloc_old _ _ (by simp <;> omega)).trans ((heap_alloc_old _ _ (by simp <;> omega)).trans (heap_alloc2_new w a b))
  · refine (heap_alloc_old _ _ (by simp <;> omega)).trans ?_
    have h := heap_alloc_new ((w.alloc a).alloc b) c
    simpa using h
  · have h := heap_alloc_new (((w.alloc a).alloc b).alloc c) d
    simpa using h
/-- Two boxes that are filled. -/
theorem fill4 (w2 : World) (A B tA tB : Nat) (a0 a1 b0 b1 v0 v1 x y : Value) (hA : w2.heap[A]? = some (.cells #[a0, a1] tA (0, 0))) (hB : w2.heap[B]? = some (.cells #[b0, b1] tB (0, 0))) (hne : A ≠ B) :
    ((((w2.setCell ⟨A, 0, none⟩ v0).setCell ⟨A, 1, none⟩ v1).setCell ⟨B, 0, none⟩ x).setCell ⟨B, 1, none⟩ y).heap[A]? = some (.cells #[v0, v1] tA (0, 0)) ∧
    ((((w2.setCell ⟨A, 0, none⟩ v0).setCell ⟨A, 1, none⟩ v1).setCell ⟨B, 0, none⟩ x).setCell ⟨B, 1, none⟩ y).heap[B]? = some (.cells #[x, y] tB (0, 0)) ∧
    (∀ n, n ≤ A → n ≤ B → n ≤ w2.heap.size → ∀ w, Below n w w2 → Below n w ((((w2.setCell ⟨A, 0, none⟩ v0).setCell ⟨A, 1, none⟩ v1).setCell ⟨B, 0, none⟩ x).setCell ⟨B, 1, none⟩ y)) ∧
    (∀ k, k ≠ A → k ≠ B → ((((w2.setCell ⟨A, 0, none⟩ v0).setCell ⟨A, 1, none⟩ v1).setCell ⟨B, 0, none⟩ x).setCell ⟨B, 1, none⟩ y).heap[k]? = w2.heap[k]?) := by
  refine ⟨?_, ?_, ?_, ?_⟩
  · rw [Below.heap_setCell _ _ _ _ hne, Below.heap_setCell _ _ _ _ hne]
    exact two_row w2 A tA _ _ v0 v1 hA
  · refine two_row _ B tB _ _ x y ((Below.heap_setCell _ _ _ _ (Ne.symm hne)).trans ((Below.heap_setCell _ _ _ _ (Ne.symm hne)).trans hB))
  · intro n hnA hnB _ w hb
    exact (((hb.setCell hnA _).setCell hnA _).setCell hnB _).setCell hnB _
  · intro k h1 h2
    rw [Below.heap_setCell _ _ _ _ h2, Below.heap_setCell _ _ _ _ h2, Below.heap_setCell _ _ _ _ h1, Below.heap_setCell _ _ _ _ h1]
section
variable {w w' : World} {F F' : Nat → Prop} {vl : Value} {W : Nat → Value × Value} {L : Pls}
/-- What the document's Add, Set, Drop leave: a row. -/
def RGoes (w w' : World) (F : Nat → Prop) (lim : Int) (L : Pls) (v : Value) : Prop := ∃ vl' W', v = .agg #[vl', .int .i64 lim] ∧ RHp w' F vl' W' L ∧ Below w.heap.size w w'
theorem Cpy.obR {w w' : World} {o : Ob} {q p : Option Addr} {n c d e : Nat} (h : Cpy w w' o (.slice q n c) (.slice p d e)) {F : Nat → Prop} (hF : ∀ k, F k → k < w.heap.size) (hd : ∀ x ∈ o.bs, x < 256) (hq : q = none → c = 0) (hp : p = none → e = 0) : ObR w' F (.slice q n c, .slice p d e) o := by
  obtain ⟨q', c', e1⟩ := own_form h.vs
  cases e1
  obtain ⟨p', e', e2⟩ := own_form h.bs
  cases e2
  refine ⟨⟨q, c, rfl, Vls.own h.vs, fun _ b o' e hf => ?_, hq⟩, ⟨p, e, rfl, Bys.own h.bs hd, fun _ b o' e hf => ?_, hp⟩⟩
  · subst e
    rcases Nat.eq_zero_or_pos o.vs.length with h0 | h0
    · omega
    · obtain ⟨b2, c2, e3⟩ := own_some h.vs h0
      cases e3
      have := own_ge h.vs (b := b) rfl
      have := hF b hf
      omega
  · subst e
    rcases Nat.eq_zero_or_pos o.bs.length with h0 | h0
    · omega
    · obtain ⟨b2, c2, e3⟩ := own_some h.bs h0
      cases e3
      have := own_ge h.bs (b := b) rfl
      have := hF b hf
      omega
set_option maxHeartbeats 6400000 in
theorem RHp.add (h : RHp w F vl W L) (hl : L.length ≤ 16000) (hF : ∀ k, F k → k < w.heap.size) (lim : Int) (o : Ob) (q p : Option Addr) (n c d e : Nat) (ho : ObW w q n p d o) (hq : q = none → c = 0) (hp : p = none → e = 0) (hn : n ≤ 100000) (hd : d ≤ 100000) :
    Calls Try.prog 21 #[.agg #[vl, .int .i64 lim], .agg #[.int .i64 o.k, .slice q n c, .slice p d e]] w fun ex w' => ∃ v, ex = .returned (.tuple #[v, valV (rAddV L lim o), .int .i64 (rAddE L lim o)]) ∧ RGoes w w' F lim (rAddL L lim o) v := by
  have HP := Lib.hid h
  have HM : Hid (∀ w1, Below w.heap.size w w1 → Calls Try.prog 37 #[.agg #[vl, .int .i64 lim], .agg #[.int .i64 o.k, .slice q n c, .slice p d e]] w1 fun ex w' => ex = .returned (.bool (rMay L o)) ∧ Below w1.heap.size w1 w') := Lib.hid fun w1 hb => (h.below hb).may (by omega) lim o q p n c d e (ho.below hb) (by omega) (by omega)
  have HLV : Hid (∀ w1, Below w.heap.size w w1 → Calls Try.prog 38 #[.agg #[vl, .int .i64 lim]] w1 fun ex w' => ex = .returned (.int .i64 (liveN L : Int)) ∧ Below w1.heap.size w1 w') := Lib.hid fun w1 hb => (h.below hb).live (by omega) lim
  have HCO : Hid (∀ w1, Below w.heap.size w w1 → Calls Try.prog 40 #[.agg #[.int .i64 o.k, .slice q n c, .slice p d e]] w1 fun ex w' => ∃ vv vb, ex = .returned (.agg #[.int .i64 o.k, vv, vb]) ∧ Cpy w1 w' o vv vb) := Lib.hid fun w1 hb => copied_any o q p n c d e w1 (ho.below hb) hq hp hn hd
  have hgl := gapH_le L
  have hG : RHp w (fun k => F k ∨ (w.heap.size ≤ k ∧ k < w.heap.size + 4)) vl W L := h.keep fun b hb hf => ⟨rfl, fun h => h.elim hf (fun h => by omega)⟩
  have HWI : Hid (∀ w1 q2 p2 n2 c2 d2 e2, Below w.heap.size w w1 → w.heap.size + 4 ≤ w1.heap.size → ObR w1 (fun k => F k ∨ (w.heap.size ≤ k ∧ k < w.heap.size + 4)) (.slice q2 n2 c2, .slice p2 d2 e2) o → Calls Try.prog 39 #[.agg #[vl, .int .i64 lim], .int .i64 (gapH L : Int), .agg #[.bool true, .bool true, .int .i64 o.k, .slice q2 n2 c2, .slice p2 d2 e2, .int .i64 0]] w1 fun ex w' =>
      ∃ vl', ex = .returned (.agg #[vl', .int .i64 lim]) ∧ RHp w' (fun k => F k ∨ (w.heap.size ≤ k ∧ k < w.heap.size + 4)) vl' (putW W (gapH L) (.slice q2 n2 c2, .slice p2 d2 e2)) (setR L (gapH L) (some (newCl o))) ∧ Below w1.heap.size w1 w') := Lib.hid fun w1 q2 p2 n2 c2 d2 e2 hb hs4 hob =>
    (hG.below hb).with_ (by omega) (fun k hk => hk.elim (fun hk => Nat.lt_of_lt_of_le (hF k hk) hb.size) (fun hk => by omega)) lim (gapH L) hgl (some (newCl o)) q2 p2 n2 c2 d2 e2 hob (fun e => by cases e)
  have HFF := Lib.hid hF
  have HDG := Lib.hid ho.bs.dig
  obtain ⟨q0, c0, rfl, hq0⟩ := own_formq h.row
  have HBE : Hid (∀ w1, Below w.heap.size w w1 → ∀ j, j < gapH L → ∃ b, q0 = some ⟨b, 0, none⟩ ∧ w1.cell? ⟨b, j * 6, none⟩ = some (.bool true)) := Lib.hid fun w1 hb j hj => by
    obtain ⟨b, c3, e3, _, a0, _⟩ := (h.below hb).cells (i := j) (by omega)
    cases e3
    obtain ⟨d3, hd3⟩ := gapH_live hj
    rw [hd3] at a0
    exact ⟨b, rfl, a0⟩
  have HBG : Hid (∀ w1, Below w.heap.size w w1 → gapH L < L.length → ∃ b, q0 = some ⟨b, 0, none⟩ ∧ w1.cell? ⟨b, gapH L * 6, none⟩ = some (.bool false)) := Lib.hid fun w1 hb hj => by
    obtain ⟨b, c3, e3, _, a0, _⟩ := (h.below hb).cells hj
    cases e3
    rw [gapH_none] at a0
    exact ⟨b, rfl, a0⟩
  obtain ⟨N, HN⟩ : ∃ N, Hid (L.length = N) := ⟨_, Lib.hid rfl⟩
  obtain ⟨k, HK⟩ : ∃ k, Hid (o.k = k) := ⟨_, Lib.hid rfl⟩
  rw [HN.out] at hl HM HLV HWI HP hgl HBG
  rw [HK.out] at HM HCO HWI ⊢
  have h4 := four_alloc w (.cells #[.slice q0 N c0, .int .i64 lim] 29) (.cells #[.int .i64 k, .slice q n c, .slice p d e] 61) (.cells #[.slice none 0 0, .int .i64 0] 29) (.cells #[.int .i64 0, .int .i64 0] 36)
  have H4 := Lib.hid h4
  rw [HN.out]
  clear h ho hq hp hF h4 hG
  cases hm : rMay L o with
  | false =>
    have HE : Hid (rAddE L lim o = 1) := Lib.hid (if_pos hm)
    have HV : Hid (rAddV L lim o = (0, 0)) := Lib.hid (if_neg (by rw [HE.out]; decide))
    have HL : Hid (rAddL L lim o = L) := Lib.hid (if_neg (by rw [HE.out]; decide))
    rw [HE.out, HV.out, HL.out]
    rw [hm] at HM
    clear hm HLV HCO HWI HBE HBG
    go_enter Try.func21, Try.ntmps21
    go_upto_region 1 with fail
    generalize (((w.alloc (.cells #[.slice q0 N c0, .int .i64 lim] 29)).alloc (.cells #[.int .i64 k, .slice q n c, .slice p d e] 61)).alloc (.cells #[.slice none 0 0, .int .i64 0] 29)).alloc (.cells #[.int .i64 0, .int .i64 0] 36) = W1 at *
    obtain ⟨hx0, hx1, hx2, hx3, hsz, hb1⟩ := H4.out
    have x0 := cell_of_row _ _ 0 _ _ _ hx0
    have x1 := cell_of_row _ _ 1 _ _ _ hx0
    have y0 := cell_of_row _ _ 0 _ _ _ hx1
    have y1 := cell_of_row _ _ 1 _ _ _ hx1
    have y2 := cell_of_row _ _ 2 _ _ _ hx1
    simp at x0 x1 y0 y1 y2
    go_upto_region 2 with (go_at_call 37; with_reducible refine (HM.out _ hb1).mono ?_; rintro ex w2 ⟨rfl, hb2⟩)
    have HB2 := Lib.hid (hb1.trans (Below.mono hb2 (by omega)))
    have hz0 := (hb2.block _ (by omega)).trans hx0
    have hz2 := (hb2.block _ (by omega)).trans hx2
    have hz3 := (hb2.block _ (by omega)).trans hx3
    have p0 := cell_of_row _ _ 0 _ _ _ hz0
    have p1 := cell_of_row _ _ 1 _ _ _ hz0
    have q20 := cell_of_row _ _ 0 _ _ _ hz2
    have q21 := cell_of_row _ _ 1 _ _ _ hz2
    have q30 := cell_of_row _ _ 0 _ _ _ hz3
    have q31 := cell_of_row _ _ 1 _ _ _ hz3
    have f20 := frozen_of_row _ _ 0 _ _ hz2
    have f21 := frozen_of_row _ _ 1 _ _ hz2
    have f30 := frozen_of_row _ _ 0 _ _ hz3
    have f31 := frozen_of_row _ _ 1 _ _ hz3
    simp at p0 p1 q20 q21 q30 q31
    clear x0 x1 y0 y1 y2 hb2
    have hF := fill4 w2 (w.heap.size + 1 + 1) (w.heap.size + 1 + 1 + 1) _ _ _ _ _ _ (.slice q0 N c0) (.int .i64 lim) (.int .i64 0) (.int .i64 0) hz2 hz3 (by omega)
    obtain ⟨u2, u3, hbf, -⟩ := hF
    have HBF := Lib.hid (hbf w.heap.size (by omega) (by omega) HB2.out.size w HB2.out)
    clear hbf
    go_wp2_with fail
    generalize (((w2.setCell ⟨w.heap.size + 1 + 1, 0, none⟩ (.slice q0 N c0)).setCell ⟨w.heap.size + 1 + 1, 1, none⟩ (.int .i64 lim)).setCell ⟨w.heap.size + 1 + 1 + 1, 0, none⟩ (.int .i64 0)).setCell ⟨w.heap.size + 1 + 1 + 1, 1, none⟩ (.int .i64 0) = V at *
    have v0 := cell_of_row _ _ 0 _ _ _ u2
    have v1 := cell_of_row _ _ 1 _ _ _ u2
    have v2 := cell_of_row _ _ 0 _ _ _ u3
    have v3 := cell_of_row _ _ 1 _ _ _ u3
    simp at v0 v1 v2 v3
    exact bodyPost_ret (v := .tuple #[.agg #[.slice q0 N c0, .int .i64 lim], .agg #[.int .i64 0, .int .i64 0], .int .i64 1]) (by simp [results, Try.results21, go_sem, v0, v1, v2, v3]) rfl ⟨_, rfl, _, _, rfl, HP.out.below HBF.out, HBF.out⟩
  | true =>
    rw [hm] at HM
    go_enter Try.func21, Try.ntmps21
    go_upto_region 1 with fail
    generalize (((w.alloc (.cells #[.slice q0 N c0, .int .i64 lim] 29)).alloc (.cells #[.int .i64 k, .slice q n c, .slice p d e] 61)).alloc (.cells #[.slice none 0 0, .int .i64 0] 29)).alloc (.cells #[.int .i64 0, .int .i64 0] 36) = W1 at *
    obtain ⟨hx0, hx1, hx2, hx3, hsz, hb1⟩ := H4.out
    have x0 := cell_of_row _ _ 0 _ _ _ hx0
    have x1 := cell_of_row _ _ 1 _ _ _ hx0
    have y0 := cell_of_row _ _ 0 _ _ _ hx1
    have y1 := cell_of_row _ _ 1 _ _ _ hx1
    have y2 := cell_of_row _ _ 2 _ _ _ hx1
    simp at x0 x1 y0 y1 y2
    go_upto_region 3 with (go_at_call 37; with_reducible refine (HM.out _ hb1).mono ?_; rintro ex w2 ⟨rfl, hb2⟩)
    have HB2 := Lib.hid (hb1.trans (Below.mono hb2 (by omega)))
    have HX : Hid (∀ u, Below w2.heap.size w2 u → u.heap[w.heap.size]? = some (.cells #[.slice q0 N c0, .int .i64 lim] 29 (0, 0)) ∧ u.heap[w.heap.size + 1]? = some (.cells #[.int .i64 k, .slice q n c, .slice p d e] 61 (0, 0)) ∧ u.heap[w.heap.size + 1 + 1]? = some (.cells #[.slice none 0 0, .int .i64 0] 29 (0, 0)) ∧ u.heap[w.heap.size + 1 + 1 + 1]? = some (.cells #[.int .i64 0, .int .i64 0] 36 (0, 0)) ∧ Below w.heap.size w u) := Lib.hid fun u hu => by
      have hs2 := hb2.size
      exact ⟨(hu.block _ (by omega)).trans ((hb2.block _ (by omega)).trans hx0), (hu.block _ (by omega)).trans ((hb2.block _ (by omega)).trans hx1), (hu.block _ (by omega)).trans ((hb2.block _ (by omega)).trans hx2), (hu.block _ (by omega)).trans ((hb2.block _ (by omega)).trans hx3), HB2.out.trans (hu.mono (by omega))⟩
    have HSZ2 : Hid (w.heap.size + 4 ≤ w2.heap.size) := Lib.hid (by have := hb2.size; omega)
    have HC0 : Hid (∀ u, Below w2.heap.size w2 u → u.cell? ⟨w.heap.size, 0, none⟩ = some (.slice q0 N c0) ∧ u.cell? ⟨w.heap.size, 1, none⟩ = some (.int .i64 lim)) := Lib.hid fun u hu => by
      obtain ⟨h1, -⟩ := HX.out u hu
      have p0 := cell_of_row _ _ 0 _ _ _ h1
      have p1 := cell_of_row _ _ 1 _ _ _ h1
      simp at p0 p1
      exact ⟨p0, p1⟩
    clear x0 x1 y0 y1 y2 hx0 hx1 hx2 hx3 hb1 hb2 hsz HM H4
    obtain ⟨lv, HLVN⟩ : ∃ lv, Hid (liveN L = lv) := ⟨_, Lib.hid rfl⟩
    rw [HLVN.out] at HLV
    obtain ⟨p0, p1⟩ := HC0.out _ (Below.refl _ _)
    go_region_held3 (fun u : World => u.cell? ⟨w.heap.size, 0, none⟩ = some (.slice q0 N c0) ∧ u.cell? ⟨w.heap.size, 1, none⟩ = some (.int .i64 lim)) ((first
        | with_reducible exact ⟨p0, p1⟩
        | go_keep)) (first
      | (go_at_call 38
         with_reducible refine (HLV.out _ ?hyp).mono ?_
         case hyp => first | exact (HX.out _ (Below.refl _ _)).2.2.2.2 | exact (HX.out _ (Below.refl _ _).drew).2.2.2.2
         rintro ex wa ⟨rfl, hbA⟩
         have hL : Below w2.heap.size w2 wa := (Below.refl _ _).drew.trans hbA
         obtain ⟨p0, p1⟩ := HC0.out _ hL))
    obtain ⟨hz0, hz1, hz2, hz3, hba⟩ := HX.out _ hL
    by_cases hf : lim ≤ (lv : Int)
    · have hd1 : decide (lim ≤ (lv : Int)) = true := decide_eq_true hf
      have HE : Hid (rAddE L lim o = 8) := Lib.hid (by unfold rAddE; rw [if_neg (by rw [hm]; decide), HLVN.out, if_pos hf])
      have HV : Hid (rAddV L lim o = (0, 0)) := Lib.hid (if_neg (by rw [HE.out]; decide))
      have HL : Hid (rAddL L lim o = L) := Lib.hid (if_neg (by rw [HE.out]; decide))
      clear hm hf
      rw [hd1]
      have hF := fill4 wa (w.heap.size + 1 + 1) (w.heap.size + 1 + 1 + 1) _ _ _ _ _ _ (.slice q0 N c0) (.int .i64 lim) (.int .i64 0) (.int .i64 0) hz2 hz3 (by omega)
      obtain ⟨u2, u3, hbf, -⟩ := hF
      have HBF := Lib.hid (hbf w.heap.size (by omega) (by omega) hba.size w hba)
      clear hbf
      have q20 := cell_of_row _ _ 0 _ _ _ hz2
      have q21 := cell_of_row _ _ 1 _ _ _ hz2
      have q30 := cell_of_row _ _ 0 _ _ _ hz3
      have q31 := cell_of_row _ _ 1 _ _ _ hz3
      have f20 := frozen_of_row _ _ 0 _ _ hz2
      have f21 := frozen_of_row _ _ 1 _ _ hz2
      have f30 := frozen_of_row _ _ 0 _ _ hz3
      have f31 := frozen_of_row _ _ 1 _ _ hz3
      simp at q20 q21 q30 q31
      go_wp2_with fail
      generalize (((wa.setCell ⟨w.heap.size + 1 + 1, 0, none⟩ (.slice q0 N c0)).setCell ⟨w.heap.size + 1 + 1, 1, none⟩ (.int .i64 lim)).setCell ⟨w.heap.size + 1 + 1 + 1, 0, none⟩ (.int .i64 0)).setCell ⟨w.heap.size + 1 + 1 + 1, 1, none⟩ (.int .i64 0) = V at *
      have v0 := cell_of_row _ _ 0 _ _ _ u2
      have v1 := cell_of_row _ _ 1 _ _ _ u2
      have v2 := cell_of_row _ _ 0 _ _ _ u3
      have v3 := cell_of_row _ _ 1 _ _ _ u3
      simp at v0 v1 v2 v3
      exact bodyPost_ret (v := .tuple #[.agg #[.slice q0 N c0, .int .i64 lim], .agg #[.int .i64 0, .int .i64 0], .int .i64 8]) (by simp [results, Try.results21, go_sem, v0, v1, v2, v3]) rfl (by rw [HE.out, HV.out, HL.out]; exact ⟨_, rfl, _, _, rfl, HP.out.below HBF.out, HBF.out⟩)
    · have hd1 : decide (lim ≤ (lv : Int)) = false := decide_eq_false hf
      have HE : Hid (rAddE L lim o = 0) := Lib.hid (by unfold rAddE; rw [if_neg (by rw [hm]; decide), HLVN.out, if_neg hf])
      have HV : Hid (rAddV L lim o = (8, (gapH L : Int))) := Lib.hid (if_pos HE.out)
      have HL : Hid (rAddL L lim o = setR L (gapH L) (some (newCl o))) := Lib.hid (if_pos HE.out)
      clear hm hf
      rw [hd1]
      obtain ⟨G, HG⟩ : ∃ G, Hid (gapH L = G) := ⟨_, Lib.hid rfl⟩
      rw [HG.out] at HV HL HBE HBG HWI hgl
      have HLL := Lib.hid hL
      have HGN : Hid (gapH L < L.length ↔ G < N) := Lib.hid (by rw [HG.out, HN.out])
      go_wp2_with fail
      clear hz0 hz1 hz2 hz3 p0 p1
      have HBA := Lib.hid hba
      clear hba
      go_loopw [7] (fun iv wr => ∃ i : Nat, i ≤ G ∧ iv = .int .i64 (i : Int) ∧ wr = wa) (fun iv _ => G - (intOf iv).toNat)
      case atStart => exact ⟨0, by omega, by go_num, rfl⟩
      case round =>
        obtain ⟨i, hi, rfl, rfl⟩ := hrel
        obtain ⟨p0, p1⟩ := HC0.out _ HLL.out
        by_cases hlt : i < G
        · obtain ⟨b, rfl, hb0⟩ := HBE.out _ HBA.out i hlt
          have hiN : (i : Int) < (N : Int) := by omega
          go_wp2_with fail
          go_roundw
          case rel => exact ⟨i + 1, by omega, by go_num, trivial⟩
          case measure => simp [intOf]; omega
        · obtain rfl : i = G := by omega
          by_cases hGN : i < N
          · obtain ⟨b, rfl, hb0⟩ := HBG.out _ HBA.out hGN
            have hiN : (i : Int) < (N : Int) := by omega
            go_upto_region 8 with fail
            clear p0 p1
            have n02 : w.heap.size + 1 + 1 ≠ w.heap.size := by omega
            have n03 : w.heap.size + 1 + 1 + 1 ≠ w.heap.size := by omega
            have n13 : w.heap.size + 1 + 1 + 1 ≠ w.heap.size + 1 := by omega
            have hL : Below w2.heap.size w2 wr := HLL.out
            obtain ⟨hz0, hz1, -, -, -⟩ := HX.out _ hL
            have p0 := cell_of_row _ _ 0 _ _ _ hz0
            have p1 := cell_of_row _ _ 1 _ _ _ hz0
            have p2 := cell_of_row _ _ 0 _ _ _ hz1
            have p3 := cell_of_row _ _ 1 _ _ _ hz1
            have p4 := cell_of_row _ _ 2 _ _ _ hz1
            simp at p0 p1 p2 p3 p4
            have HC5 : Hid (∀ u, Below w2.heap.size w2 u → u.cell? ⟨w.heap.size, 0, none⟩ = some (.slice (some ⟨b, 0, none⟩) N c0) ∧ u.cell? ⟨w.heap.size, 1, none⟩ = some (.int .i64 lim) ∧ u.cell? ⟨w.heap.size + 1, 0, none⟩ = some (.int .i64 k) ∧ u.cell? ⟨w.heap.size + 1, 1, none⟩ = some (.slice q n c) ∧ u.cell? ⟨w.heap.size + 1, 2, none⟩ = some (.slice p d e)) := Lib.hid fun u hu => by
              obtain ⟨h1, h2, -⟩ := HX.out u hu
              have p0 := cell_of_row _ _ 0 _ _ _ h1
              have p1 := cell_of_row _ _ 1 _ _ _ h1
              have p2 := cell_of_row _ _ 0 _ _ _ h2
              have p3 := cell_of_row _ _ 1 _ _ _ h2
              have p4 := cell_of_row _ _ 2 _ _ _ h2
              simp at p0 p1 p2 p3 p4
              exact ⟨p0, p1, p2, p3, p4⟩
            have HFW : Hid (∀ u, Below w2.heap.size w2 u → ∀ k2, (F k2 ∨ (w.heap.size ≤ k2 ∧ k2 < w.heap.size + 4)) → k2 < u.heap.size) := Lib.hid fun u hu k2 hk => hk.elim (fun hk => Nat.lt_of_lt_of_le (HFF.out k2 hk) (HX.out u hu).2.2.2.2.size) (fun hk => by have := HSZ2.out; have := hu.size; omega)
            have HUP : Hid (∀ u, Below w2.heap.size w2 u → Below w.heap.size w u) := Lib.hid fun u hu => (HX.out u hu).2.2.2.2
            go_region_held3 (fun u : World => u.cell? ⟨w.heap.size, 0, none⟩ = some (.slice (some ⟨b, 0, none⟩) N c0) ∧ u.cell? ⟨w.heap.size, 1, none⟩ = some (.int .i64 lim) ∧ u.cell? ⟨w.heap.size + 1, 0, none⟩ = some (.int .i64 k) ∧ u.cell? ⟨w.heap.size + 1, 1, none⟩ = some (.slice q n c) ∧ u.cell? ⟨w.heap.size + 1, 2, none⟩ = some (.slice p d e)) ((first
                | with_reducible exact ⟨p0, p1, p2, p3, p4⟩
                | go_keep)) (first
              | (go_at_call 40
                 with_reducible refine (HCO.out _ ?hyp).mono ?_
                 case hyp => first | exact HUP.out _ HLL.out | exact HUP.out _ (HLL.out.trans (((Below.refl _ _).drew).mono HLL.out.size))
                 rintro ex wc ⟨vv, vb, rfl, hcp⟩
                 obtain ⟨qa, ca, rfl, hqa⟩ := own_formq hcp.vs
                 obtain ⟨qb, cb, rfl, hqb⟩ := own_formq hcp.bs
                 have hL : Below w2.heap.size w2 wc := HLL.out.trans (((Below.refl _ _).drew.trans hcp.below).mono HLL.out.size)
                 have HOB := Lib.hid (hcp.obR (F := fun k => F k ∨ (w.heap.size ≤ k ∧ k < w.heap.size + 4)) (HFW.out _ (HLL.out.trans (((Below.refl _ _).drew).mono HLL.out.size))) HDG.out hqa hqb)
                 obtain ⟨p0, p1, p2, p3, p4⟩ := HC5.out _ hL)
              | (go_at_call 39
                 with_reducible refine (HWI.out _ _ _ _ _ _ _ (HUP.out _ hL) (by have := HSZ2.out; have := hL.size; omega) HOB.out).mono ?_
                 rintro ex wd ⟨vl9, rfl, hr9, hb9⟩
                 obtain ⟨q9, c9, rfl, -⟩ := own_formq hr9.row
                 have hL := hL.trans (hb9.mono hL.size)
                 obtain ⟨p0, p1, p2, p3, p4⟩ := HC5.out _ hL
                 obtain ⟨-, -, hz2, hz3, hbd⟩ := HX.out _ hL
                 have q20 := cell_of_row _ _ 0 _ _ _ hz2
                 have q21 := cell_of_row _ _ 1 _ _ _ hz2
                 have q30 := cell_of_row _ _ 0 _ _ _ hz3
                 have q31 := cell_of_row _ _ 1 _ _ _ hz3
                 have f20 := frozen_of_row _ _ 0 _ _ hz2
                 have f21 := frozen_of_row _ _ 1 _ _ hz2
                 have f30 := frozen_of_row _ _ 0 _ _ hz3
                 have f31 := frozen_of_row _ _ 1 _ _ hz3
                 simp at q20 q21 q30 q31))
            have hF := fill4 wd (w.heap.size + 1 + 1) (w.heap.size + 1 + 1 + 1) _ _ _ _ _ _ (.slice q9 (setR L i (some (newCl o))).length c9) (.int .i64 lim) (.int .i64 8) (.int .i64 (i : Int)) hz2 hz3 (by omega)
            obtain ⟨u2, u3, hbf, hoth⟩ := hF
            have HBF := Lib.hid (hbf w.heap.size (by omega) (by omega) hbd.size w hbd)
            have HRV := Lib.hid (hr9.keep (w' := (((wd.setCell ⟨w.heap.size + 1 + 1, 0, none⟩ (.slice q9 (setR L i (some (newCl o))).length c9)).setCell ⟨w.heap.size + 1 + 1, 1, none⟩ (.int .i64 lim)).setCell ⟨w.heap.size + 1 + 1 + 1, 0, none⟩ (.int .i64 8)).setCell ⟨w.heap.size + 1 + 1 + 1, 1, none⟩ (.int .i64 (i : Int))) (F' := F) (fun b2 hb2 hf2 => ⟨hoth b2 (fun e2 => hf2 (.inr (by omega))) (fun e2 => hf2 (.inr (by omega))), fun hf3 => hf2 (.inl hf3)⟩))
            clear hbf hoth hr9
            generalize (setR L i (some (newCl o))).length = n9 at *
            go_wp2_with fail
            generalize (((wd.setCell ⟨w.heap.size + 1 + 1, 0, none⟩ (.slice q9 n9 c9)).setCell ⟨w.heap.size + 1 + 1, 1, none⟩ (.int .i64 lim)).setCell ⟨w.heap.size + 1 + 1 + 1, 0, none⟩ (.int .i64 8)).setCell ⟨w.heap.size + 1 + 1 + 1, 1, none⟩ (.int .i64 (i : Int)) = V at *
            have v0 := cell_of_row _ _ 0 _ _ _ u2
            have v1 := cell_of_row _ _ 1 _ _ _ u2
            have v2 := cell_of_row _ _ 0 _ _ _ u3
            have v3 := cell_of_row _ _ 1 _ _ _ u3
            simp at v0 v1 v2 v3
            exact bodyPost_ret (v := .tuple #[.agg #[.slice q9 n9 c9, .int .i64 lim], .agg #[.int .i64 8, .int .i64 (i : Int)], .int .i64 0]) (by simp [results, Try.results21, go_sem, v0, v1, v2, v3]) rfl (by rw [HE.out, HV.out, HL.out]; exact ⟨_, rfl, _, _, rfl, HRV.out, HBF.out⟩)
          · have hiN : ¬ (i : Int) < (N : Int) := by omega
            go_upto_region 8 with fail
            clear p0 p1
            have n02 : w.heap.size + 1 + 1 ≠ w.heap.size := by omega
            have n03 : w.heap.size + 1 + 1 + 1 ≠ w.heap.size := by omega
            have n13 : w.heap.size + 1 + 1 + 1 ≠ w.heap.size + 1 := by omega
            have hL : Below w2.heap.size w2 wr := HLL.out
            obtain ⟨hz0, hz1, -, -, -⟩ := HX.out _ hL
            have p0 := cell_of_row _ _ 0 _ _ _ hz0
            have p1 := cell_of_row _ _ 1 _ _ _ hz0
            have p2 := cell_of_row _ _ 0 _ _ _ hz1
            have p3 := cell_of_row _ _ 1 _ _ _ hz1
            have p4 := cell_of_row _ _ 2 _ _ _ hz1
            simp at p0 p1 p2 p3 p4
            have HC5 : Hid (∀ u, Below w2.heap.size w2 u → u.cell? ⟨w.heap.size, 0, none⟩ = some (.slice q0 N c0) ∧ u.cell? ⟨w.heap.size, 1, none⟩ = some (.int .i64 lim) ∧ u.cell? ⟨w.heap.size + 1, 0, none⟩ = some (.int .i64 k) ∧ u.cell? ⟨w.heap.size + 1, 1, none⟩ = some (.slice q n c) ∧ u.cell? ⟨w.heap.size + 1, 2, none⟩ = some (.slice p d e)) := Lib.hid fun u hu => by
              obtain ⟨h1, h2, -⟩ := HX.out u hu
              have p0 := cell_of_row _ _ 0 _ _ _ h1
              have p1 := cell_of_row _ _ 1 _ _ _ h1
              have p2 := cell_of_row _ _ 0 _ _ _ h2
              have p3 := cell_of_row _ _ 1 _ _ _ h2
              have p4 := cell_of_row _ _ 2 _ _ _ h2
              simp at p0 p1 p2 p3 p4
              exact ⟨p0, p1, p2, p3, p4⟩
            have HFW : Hid (∀ u, Below w2.heap.size w2 u → ∀ k2, (F k2 ∨ (w.heap.size ≤ k2 ∧ k2 < w.heap.size + 4)) → k2 < u.heap.size) := Lib.hid fun u hu k2 hk => hk.elim (fun hk => Nat.lt_of_lt_of_le (HFF.out k2 hk) (HX.out u hu).2.2.2.2.size) (fun hk => by have := HSZ2.out; have := hu.size; omega)
            have HUP : Hid (∀ u, Below w2.heap.size w2 u → Below w.heap.size w u) := Lib.hid fun u hu => (HX.out u hu).2.2.2.2
            go_region_held3 (fun u : World => u.cell? ⟨w.heap.size, 0, none⟩ = some (.slice q0 N c0) ∧ u.cell? ⟨w.heap.size, 1, none⟩ = some (.int .i64 lim) ∧ u.cell? ⟨w.heap.size + 1, 0, none⟩ = some (.int .i64 k) ∧ u.cell? ⟨w.heap.size + 1, 1, none⟩ = some (.slice q n c) ∧ u.cell? ⟨w.heap.size + 1, 2, none⟩ = some (.slice p d e)) ((first
                | with_reducible exact ⟨p0, p1, p2, p3, p4⟩
                | go_keep)) (first
              | (go_at_call 40
                 with_reducible refine (HCO.out _ ?hyp).mono ?_
                 case hyp => first | exact HUP.out _ HLL.out | exact HUP.out _ (HLL.out.trans (((Below.refl _ _).drew).mono HLL.out.size))
                 rintro ex wc ⟨vv, vb, rfl, hcp⟩
                 obtain ⟨qa, ca, rfl, hqa⟩ := own_formq hcp.vs
                 obtain ⟨qb, cb, rfl, hqb⟩ := own_formq hcp.bs
                 have hL : Below w2.heap.size w2 wc := HLL.out.trans (((Below.refl _ _).drew.trans hcp.below).mono HLL.out.size)
                 have HOB := Lib.hid (hcp.obR (F := fun k => F k ∨ (w.heap.size ≤ k ∧ k < w.heap.size + 4)) (HFW.out _ (HLL.out.trans (((Below.refl _ _).drew).mono HLL.out.size))) HDG.out hqa hqb)
                 obtain ⟨p0, p1, p2, p3, p4⟩ := HC5.out _ hL)
              | (go_at_call 39
                 with_reducible refine (HWI.out _ _ _ _ _ _ _ (HUP.out _ hL) (by have := HSZ2.out; have := hL.size; omega) HOB.out).mono ?_
                 rintro ex wd ⟨vl9, rfl, hr9, hb9⟩
                 obtain ⟨q9, c9, rfl, -⟩ := own_formq hr9.row
                 have hL := hL.trans (hb9.mono hL.size)
                 obtain ⟨p0, p1, p2, p3, p4⟩ := HC5.out _ hL
                 obtain ⟨-, -, hz2, hz3, hbd⟩ := HX.out _ hL
                 have q20 := cell_of_row _ _ 0 _ _ _ hz2
                 have q21 := cell_of_row _ _ 1 _ _ _ hz2
                 have q30 := cell_of_row _ _ 0 _ _ _ hz3
                 have q31 := cell_of_row _ _ 1 _ _ _ hz3
                 have f20 := frozen_of_row _ _ 0 _ _ hz2
                 have f21 := frozen_of_row _ _ 1 _ _ hz2
                 have f30 := frozen_of_row _ _ 0 _ _ hz3
                 have f31 := frozen_of_row _ _ 1 _ _ hz3
                 simp at q20 q21 q30 q31))
            have hF := fill4 wd (w.heap.size + 1 + 1) (w.heap.size + 1 + 1 + 1) _ _ _ _ _ _ (.slice q9 (setR L i (some (newCl o))).length c9) (.int .i64 lim) (.int .i64 8) (.int .i64 (i : Int)) hz2 hz3 (by omega)
            obtain ⟨u2, u3, hbf, hoth⟩ := hF
            have HBF := Lib.hid (hbf w.heap.size (by omega) (by omega) hbd.size w hbd)
            have HRV := Lib.hid (hr9.keep (w' := (((wd.setCell ⟨w.heap.size + 1 + 1, 0, none⟩ (.slice q9 (setR L i (some (newCl o))).length c9)).setCell ⟨w.heap.size + 1 + 1, 1, none⟩ (.int .i64 lim)).setCell ⟨w.heap.size + 1 + 1 + 1, 0, none⟩ (.int .i64 8)).setCell ⟨w.heap.size + 1 + 1 + 1, 1, none⟩ (.int .i64 (i : Int))) (F' := F) (fun b2 hb2 hf2 => ⟨hoth b2 (fun e2 => hf2 (.inr (by omega))) (fun e2 => hf2 (.inr (by omega))), fun hf3 => hf2 (.inl hf3)⟩))
            clear hbf hoth hr9
            generalize (setR L i (some (newCl o))).length = n9 at *
            go_wp2_with fail
            generalize (((wd.setCell ⟨w.heap.size + 1 + 1, 0, none⟩ (.slice q9 n9 c9)).setCell ⟨w.heap.size + 1 + 1, 1, none⟩ (.int .i64 lim)).setCell ⟨w.heap.size + 1 + 1 + 1, 0, none⟩ (.int .i64 8)).setCell ⟨w.heap.size + 1 + 1 + 1, 1, none⟩ (.int .i64 (i : Int)) = V at *
            have v0 := cell_of_row _ _ 0 _ _ _ u2
            have v1 := cell_of_row _ _ 1 _ _ _ u2
            have v2 := cell_of_row _ _ 0 _ _ _ u3
            have v3 := cell_of_row _ _ 1 _ _ _ u3
            simp at v0 v1 v2 v3
            exact bodyPost_ret (v := .tuple #[.agg #[.slice q9 n9 c9, .int .i64 lim], .agg #[.int .i64 8, .int .i64 (i : Int)], .int .i64 0]) (by simp [results, Try.results21, go_sem, v0, v1, v2, v3]) rfl (by rw [HE.out, HV.out, HL.out]; exact ⟨_, rfl, _, _, rfl, HRV.out, HBF.out⟩)
end
end Go.Proofs.Ytekmboolfjicbaa
