/- The document's Copied. -/
import Derived.Test.YtekmboolfjicbaaRMay
import Derived.Laws.AppendOwnNone
set_option maxRecDepth 20000
set_option linter.unusedSimpArgs false
namespace Go.Proofs.Ytekmboolfjicbaa
open Go.RowKit

theorem own_formq {w : World} {base E m n : Nat} {v : Value} {xs : List Value} (h : w.ownsRow base E m v n xs) : ∃ (q : Option Addr) (c : Nat), v = .slice q n c ∧ (q = none → c = 0) := by
  rcases h.2 with ⟨rfl, hx⟩ | ⟨g, cap, cur, e, _⟩
  · have := h.1
    subst hx
    exact ⟨none, 0, rfl, fun _ => rfl⟩
  · exact ⟨_, _, e, fun h => by cases h⟩
/-- 'append(nil, xs...)': a row of the call's own. -/
theorem wpList_app0 (w : World) {ops : Array Oper} {rest : List Oper} {o : Oper} {a : Act} {Q : Exit → Act → World → Prop} (hgd : o.guard = none) (sl x : Operand) (t e : TypeId)
    (ho : o.op = .call { callee := .builtin .append, args := #[sl, x], argTypes := #[t, t] }) (ht : Try.prog.underlying t = some (.slice e)) (z : Value) (size bytes : Nat)
    (hin : (Try.prog.info? e).map (fun i => (i.zero, i.size, i.bytes)) = some (some z, size, bytes)) (hzs : z.cells.size = size) (hsz : 0 < size) (hs : a.eval sl = .slice none 0 0)
    (q : Option Addr) (m c : Nat) (news : List Value) (hx : a.eval x = .slice q m c) (hq : q = none → c = 0) (hl : news.length = m * size)
    (hcell : 0 < m → ∃ ad, q = some ad ∧ ∀ j u, news[j]? = some u → w.cell? (ad.add j) = some u) (h1 : ∀ u ∈ news, u.oneCell' = true) (hm : m ≤ maxLen) (hmb : m * bytes ≤ 140737488355328)
    (h : ∀ v' w', w'.ownsRow w.heap.size e size v' m news → Below w.heap.size w w' → wpList Try.prog ops Q rest (a.put o.dst v') w') : wpList Try.prog ops Q (o :: rest) a w := by
  obtain ⟨i0, hi0, hz0, hz1, hz2⟩ := info_parts hin
  cases q with
  | none =>
    have hm0 : m = 0 := by
      rcases Nat.eq_zero_or_pos m with h | h
      · exact h
      · obtain ⟨_, e, _⟩ := hcell h; cases e
    subst hm0
    have hn : news = [] := List.eq_nil_of_length_eq_zero (by rw [hl]; omega)
    subst hn
    rw [hq rfl] at hx
    exact wpList_append_own_none hgd sl x t ho w.heap.size e i0 size ht hi0 (.slice none 0 0) 0 [] hs (World.ownsRow_nil _ _ _ _) hx (h _ _ (World.ownsRow_nil _ _ _ _) (Below.refl _ _))
  | some ad =>
    have hcell2 : ∀ j u, news[j]? = some u → w.cell? (ad.add j) = some u := fun j u hj => by
      have hjl : j < news.length := (List.getElem?_eq_some_iff.1 hj).1
      obtain ⟨ad2, e2, hc⟩ := hcell (by
        rcases Nat.eq_zero_or_pos m with h | h
        · rw [hl, h] at hjl; omega
        · exact h)
      cases e2
      exact hc j u hj
    refine wpList_append_own w hgd sl x t ho w.heap.size e i0 z size bytes ht hi0 hz0 hz1 hz2 hzs hsz (.slice none 0 0) 0 [] hs (World.ownsRow_nil _ _ _ _) ad m c news hx hl hcell2 h1 (by omega) (by rw [Nat.zero_add]; exact hmb) (Nat.le_refl _) ?_
    intro v' w' h1 h2 _
    rw [Nat.zero_add] at h1
    exact h v' w' h1 ((Below.refl _ _).grown h2 (Nat.le_refl _) (fun k hk => by cases hk))
set_option maxHeartbeats 3200000 in
theorem copied_any (o : Ob) (q p : Option Addr) (n c d e : Nat) (w : World) (ho : ObW w q n p d o) (hq : q = none → c = 0) (hp : p = none → e = 0) (hn : n ≤ 100000) (hd : d ≤ 100000) :
    Calls Try.prog 40 #[.agg #[.int .i64 o.k, .slice q n c, .slice p d e]] w fun ex w' => ∃ vv vb, ex = .returned (.agg #[.int .i64 o.k, vv, vb]) ∧ Cpy w w' o vv vb := by
  have hvl := ho.vs.len
  have hbl := ho.bs.len
  have HO := Lib.hid ho
  have HQ := Lib.hid hq
  have HPP := Lib.hid hp
  obtain ⟨k, HK⟩ : ∃ k, Hid (o.k = k) := ⟨_, Lib.hid rfl⟩
  rw [HK.out]
  clear ho hq hp
  go_enter Try.func40, Try.ntmps40
  go_upto_region 2 with fail
  have HX0 : Hid ((((w.alloc (.cells #[.int .i64 k, .slice q n c, .slice p d e] 61)).alloc (.cells #[.int .i64 0, .slice none 0 0, .slice none 0 0] 61)).alloc (.cells #[.int .i64 k, .slice none 0 0, .slice none 0 0] 61)).heap[w.heap.size]? = some (.cells #[.int .i64 k, .slice q n c, .slice p d e] 61 (0, 0))) := Lib.hid ((heap_alloc_old _ _ (by simp <;> omega)).trans (heap_alloc2_old w _ _))
  have HX1 : Hid ((((w.alloc (.cells #[.int .i64 k, .slice q n c, .slice p d e] 61)).alloc (.cells #[.int .i64 0, .slice none 0 0, .slice none 0 0] 61)).alloc (.cells #[.int .i64 k, .slice none 0 0, .slice none 0 0] 61)).heap[w.heap.size + 1]? = some (.cells #[.int .i64 0, .slice none 0 0, .slice none 0 0] 61 (0, 0))) := Lib.hid ((heap_alloc_old _ _ (by simp <;> omega)).trans (heap_alloc2_new w _ _))
  have HX2 : Hid ((((w.alloc (.cells #[.int .i64 k, .slice q n c, .slice p d e] 61)).alloc (.cells #[.int .i64 0, .slice none 0 0, .slice none 0 0] 61)).alloc (.cells #[.int .i64 k, .slice none 0 0, .slice none 0 0] 61)).heap[w.heap.size + 1 + 1]? = some (.cells #[.int .i64 k, .slice none 0 0, .slice none 0 0] 61 (0, 0))) := Lib.hid (by
    have h := heap_alloc_new ((w.alloc (.cells #[.int .i64 k, .slice q n c, .slice p d e] 61)).alloc (.cells #[.int .i64 0, .slice none 0 0, .slice none 0 0] 61)) (.cells #[.int .i64 k, .slice none 0 0, .slice none 0 0] 61)
    simpa using h)
  have HB : Hid (Below w.heap.size w (((w.alloc (.cells #[.int .i64 k, .slice q n c, .slice p d e] 61)).alloc (.cells #[.int .i64 0, .slice none 0 0, .slice none 0 0] 61)).alloc (.cells #[.int .i64 k, .slice none 0 0, .slice none 0 0] 61))) := Lib.hid ((b2 w _ _).alloc (by simp; omega) _)
  have HSZ : Hid ((((w.alloc (.cells #[.int .i64 k, .slice q n c, .slice p d e] 61)).alloc (.cells #[.int .i64 0, .slice none 0 0, .slice none 0 0] 61)).alloc (.cells #[.int .i64 k, .slice none 0 0, .slice none 0 0] 61)).heap.size = w.heap.size + 3) := Lib.hid (by simp)
  generalize ((w.alloc (.cells #[.int .i64 k, .slice q n c, .slice p d e] 61)).alloc (.cells #[.int .i64 0, .slice none 0 0, .slice none 0 0] 61)).alloc (.cells #[.int .i64 k, .slice none 0 0, .slice none 0 0] 61) = W at *
  have hsz := HSZ.out
  have HO3 := Lib.hid (HO.out.below HB.out)
  have x0 := cell_of_row _ _ 1 _ _ _ HX0.out
  have x2 := cell_of_row _ _ 1 _ _ _ HX2.out
  have f2 := frozen_of_row _ _ 1 _ _ HX2.out
  simp at x0 x2
  have HFL : Hid ((flatV o.vs).length = n * 2) := Lib.hid (by rw [flatV_len, hvl])
  have HFU : Hid ((u8s o.bs).length = d * 1) := Lib.hid (by rw [u8s_len, hbl]; omega)
  have HFO := Lib.hid (flatV_one o.vs)
  have HUO := Lib.hid (u8s_one o.bs)
  have HCE := Lib.hid (fun hn => HO3.out.vs.cells hn)
  have HN := Lib.hid hn
  have HD := Lib.hid hd
  have hL1 : w.heap.size + 1 + 1 < W.heap.size := by omega
  have hL0 : w.heap.size < W.heap.size := by omega
  clear hn hd
  go_upto_region 3 with (at_builtin; refine wpList_app0 _ rfl (.tmp 8) (.tmp 10) 23 36 rfl Try.underlying23 _ 2 16 Try.infoV rfl (by decide) (by rfl) q n c (flatV o.vs) (by rfl) HQ.out HFL.out HCE.out HFO.out (by have := HN.out; unfold maxLen; omega) (by have := HN.out; omega) ?_; intro v4 w4 hr4 hb4; obtain ⟨q4, c4, rfl, hq4⟩ := own_formq hr4; have y2 := (hb4.cell (p := ⟨w.heap.size + 1 + 1, 1, none⟩) hL1).trans x2; have g2 := (hb4.frozen (p := ⟨w.heap.size + 1 + 1, 1, none⟩) hL1).trans f2)
  have HR4 := Lib.hid hr4
  have HB4 := Lib.hid hb4
  have hy0 := (hb4.block _ (by omega)).trans HX0.out
  have hy1 := (hb4.block _ (by omega)).trans HX1.out
  have hy2 := (hb4.block _ (by omega)).trans HX2.out
  have hz2 := heap_setCell_same w4 (w.heap.size + 1 + 1) 1 _ _ (.slice q4 n c4) hy2
  have hz0 := (heap_setCell_other w4 ⟨w.heap.size + 1 + 1, 1, none⟩ w.heap.size (.slice q4 n c4) (by show w.heap.size ≠ w.heap.size + 1 + 1; omega)).trans hy0
  have hz1 := (heap_setCell_other w4 ⟨w.heap.size + 1 + 1, 1, none⟩ (w.heap.size + 1) (.slice q4 n c4) (by show w.heap.size + 1 ≠ w.heap.size + 1 + 1; omega)).trans hy1
  have HR5 : Hid ((w4.setCell ⟨w.heap.size + 1 + 1, 1, none⟩ (.slice q4 n c4)).ownsRow W.heap.size 36 2 (.slice q4 n c4) n (flatV o.vs)) := Lib.hid (own_other hr4 fun b hb => heap_setCell_other _ _ _ _ (by have := own_ge hr4 hb; show b ≠ w.heap.size + 1 + 1; omega))
  have HB5 : Hid (Below (w.heap.size + 1) W (w4.setCell ⟨w.heap.size + 1 + 1, 1, none⟩ (.slice q4 n c4))) := Lib.hid ((Below.mono hb4 (by omega)).setCell (by show w.heap.size + 1 ≤ w.heap.size + 1 + 1; omega) _)
  have HBW5 : Hid (Below w.heap.size w (w4.setCell ⟨w.heap.size + 1 + 1, 1, none⟩ (.slice q4 n c4))) := Lib.hid (HB.out.trans (Below.mono HB5.out (by omega)))
  clear x0 x2 f2 y2 g2 hy0 hy1 hy2 hr4 hb4 HR4 HB4 HCE
  have hs5 : W.heap.size ≤ (w4.setCell ⟨w.heap.size + 1 + 1, 1, none⟩ (.slice q4 n c4)).heap.size := HB5.out.size
  generalize w4.setCell ⟨w.heap.size + 1 + 1, 1, none⟩ (.slice q4 n c4) = W5 at *
  have x0 := cell_of_row _ _ 2 _ _ _ hz0
  have x2 := cell_of_row _ _ 2 _ _ _ hz2
  have f2 := frozen_of_row _ _ 2 _ _ hz2
  simp at x0 x2
  have hL2 : w.heap.size + 1 + 1 < W5.heap.size := by omega
  have HO5 := Lib.hid (HO.out.below HBW5.out)
  have HCB := Lib.hid (fun hn => HO5.out.bs.cells hn)
  go_upto_region 4 with (at_builtin; refine wpList_app0 _ rfl (.tmp 14) (.tmp 16) 59 5 rfl Try.underlying59 _ 1 1 Try.info5 rfl (by decide) (by rfl) p d e (u8s o.bs) (by rfl) HPP.out HFU.out HCB.out HUO.out (by have := HD.out; unfold maxLen; omega) (by have := HD.out; omega) ?_; intro v6 w6 hr6 hb6; obtain ⟨q6, c6, rfl, hq6⟩ := own_formq hr6; have y2 := (hb6.cell (p := ⟨w.heap.size + 1 + 1, 2, none⟩) hL2).trans x2; have g2 := (hb6.frozen (p := ⟨w.heap.size + 1 + 1, 2, none⟩) hL2).trans f2)
  have ha1 := (hb6.block (w.heap.size + 1) (by omega)).trans hz1
  have ha2 := (hb6.block (w.heap.size + 1 + 1) (by omega)).trans hz2
  have hc2 := heap_setCell_same w6 (w.heap.size + 1 + 1) 2 _ _ (.slice q6 d c6) ha2
  have hc1 := (heap_setCell_other w6 ⟨w.heap.size + 1 + 1, 2, none⟩ (w.heap.size + 1) (.slice q6 d c6) (by show w.heap.size + 1 ≠ w.heap.size + 1 + 1; omega)).trans ha1
  have HR7 : Hid ((w6.setCell ⟨w.heap.size + 1 + 1, 2, none⟩ (.slice q6 d c6)).ownsRow W.heap.size 36 2 (.slice q4 n c4) n (flatV o.vs)) := Lib.hid (own_other (own_below HR5.out hb6) fun b hb => heap_setCell_other _ _ _ _ (by have := own_ge HR5.out hb; show b ≠ w.heap.size + 1 + 1; omega))
  have HU7 : Hid ((w6.setCell ⟨w.heap.size + 1 + 1, 2, none⟩ (.slice q6 d c6)).ownsRow W.heap.size 5 1 (.slice q6 d c6) d (u8s o.bs)) := Lib.hid (own_low (own_other hr6 fun b hb => heap_setCell_other _ _ _ _ (by have := own_ge hr6 hb; show b ≠ w.heap.size + 1 + 1; omega)) hs5)
  have HB7 : Hid (Below w.heap.size w (w6.setCell ⟨w.heap.size + 1 + 1, 2, none⟩ (.slice q6 d c6))) := Lib.hid ((HBW5.out.trans (hb6.mono HBW5.out.size)).setCell (by show w.heap.size ≤ w.heap.size + 1 + 1; omega) _)
  have hs7 : W5.heap.size ≤ (w6.setCell ⟨w.heap.size + 1 + 1, 2, none⟩ (.slice q6 d c6)).heap.size := by simpa using hb6.size
  clear x0 x2 f2 y2 g2 ha1 ha2 hr6 hb6 hz0 hz1 hz2
  generalize w6.setCell ⟨w.heap.size + 1 + 1, 2, none⟩ (.slice q6 d c6) = W7 at *
  have x0 := cell_of_row _ _ 0 _ _ _ hc2
  have x1 := cell_of_row _ _ 1 _ _ _ hc2
  have x2 := cell_of_row _ _ 2 _ _ _ hc2
  have y0 := cell_of_row _ _ 0 _ _ _ hc1
  have y1 := cell_of_row _ _ 1 _ _ _ hc1
  have y2 := cell_of_row _ _ 2 _ _ _ hc1
  have f0 := frozen_of_row _ _ 0 _ _ hc1
  have f1 := frozen_of_row _ _ 1 _ _ hc1
  have f2 := frozen_of_row _ _ 2 _ _ hc1
  simp at x0 x1 x2 y0 y1 y2
  have hF := three_row W7 (w.heap.size + 1) _ _ _ _ (.int .i64 k) (.slice q4 n c4) (.slice q6 d c6) hc1
  have HC : Hid (Cpy w (((W7.setCell ⟨w.heap.size + 1, 0, none⟩ (.int .i64 k)).setCell ⟨w.heap.size + 1, 1, none⟩ (.slice q4 n c4)).setCell ⟨w.heap.size + 1, 2, none⟩ (.slice q6 d c6)) o (.slice q4 n c4) (.slice q6 d c6)) := Lib.hid (by
    refine ⟨?_, ?_, ((HB7.out.setCell (by show w.heap.size ≤ w.heap.size + 1; omega) _).setCell (by show w.heap.size ≤ w.heap.size + 1; omega) _).setCell (by show w.heap.size ≤ w.heap.size + 1; omega) _⟩
    · rw [hvl]
      exact own_low (own_other HR7.out fun b hb => by
        have h1 : b ≠ w.heap.size + 1 := by have := own_ge HR7.out hb; omega
        rw [Below.heap_setCell _ _ _ _ h1, Below.heap_setCell _ _ _ _ h1, Below.heap_setCell _ _ _ _ h1]) (by omega)
    · rw [hbl]
      exact own_low (own_other HU7.out fun b hb => by
        have h1 : b ≠ w.heap.size + 1 := by have := own_ge HU7.out hb; omega
        rw [Below.heap_setCell _ _ _ _ h1, Below.heap_setCell _ _ _ _ h1, Below.heap_setCell _ _ _ _ h1]) (by omega))
  go_wp2_with fail
  generalize ((W7.setCell ⟨w.heap.size + 1, 0, none⟩ (.int .i64 k)).setCell ⟨w.heap.size + 1, 1, none⟩ (.slice q4 n c4)).setCell ⟨w.heap.size + 1, 2, none⟩ (.slice q6 d c6) = V at *
  have v0 := cell_of_row _ _ 0 _ _ _ hF
  have v1 := cell_of_row _ _ 1 _ _ _ hF
  have v2 := cell_of_row _ _ 2 _ _ _ hF
  simp at v0 v1 v2
  exact bodyPost_ret (v := .agg #[.int .i64 k, .slice q4 n c4, .slice q6 d c6]) (by simp [results, Try.results40, go_sem, v0, v1, v2]) rfl ⟨_, _, rfl, HC.out⟩
end Go.Proofs.Ytekmboolfjicbaa
