/- made: a memory behind some steps. -/
import Derived.Test.YthmajccajmnfcaaLStep

import Derived.BigRegion
set_option maxRecDepth 20000
set_option linter.unusedSimpArgs false
namespace Go.Proofs.Ythmajccajmnfcaa
open Go.RowKit

/-- What is left of the two behind a step. -/
structure MadeJ (w0 wr : World) (g s : Nat) (F : Nat → Prop) (m : Hm) (vl : Value) (L : Pls) : Prop where
  jt : Jt wr g F (fun k => k = w0.heap.size ∨ k = s) m vl L 40
  below : Below w0.heap.size w0 wr
  high : ∀ k, F k → w0.heap.size < k ∧ k ≠ s
  b3 : wr.heap[w0.heap.size]? = some (.cells #[.slice none 0 0, .int .i64 0] 33 (0, 0))
  b6 : wr.heap[s]? = some (.cells #[vl, .int .i64 40] 33 (0, 0))
  hs : w0.heap.size < s
theorem MadeJ.step {w0 wr w2 V : World} {g s : Nat} {F F' : Nat → Prop} {m m' : Hm} {vl vl' : Value} {L L' : Pls} (h : MadeJ w0 wr g s F m vl L) (hj : Jt w2 g F' (fun k => k = w0.heap.size ∨ k = s) m' vl' L' 40) (hc : Chp F F' wr w2)
    (hV : ∀ k, k ≠ s → V.heap[k]? = w2.heap[k]?) (ho : V.os = w2.os) (ht : V.tape = w2.tape) (hp : V.output = w2.output) (hz : V.heap.size = w2.heap.size)
    (h6 : w2.heap[s]? = some (.cells #[vl, .int .i64 40] 33 (0, 0)) → V.heap[s]? = some (.cells #[vl', .int .i64 40] 33 (0, 0))) : MadeJ w0 V g s F' m' vl' L' := by
  have l3 := (Array.getElem?_eq_some_iff.1 h.b3).1
  have l6 := (Array.getElem?_eq_some_iff.1 h.b6).1
  have hs := h.hs
  have n3 : ¬ F' w0.heap.size := hc.out l3 fun e => by have := h.high _ e; omega
  have n6 : ¬ F' s := hc.out l6 fun e => (h.high _ e).2 rfl
  have hB : Below w0.heap.size w0 w2 := hc.below h.below h.below.size fun k hk => Nat.le_of_lt (h.high k hk).1
  have hH := hc.high h.below.size fun k hk => Nat.le_of_lt (h.high k hk).1
  obtain ⟨W, hr⟩ := hj.row
  refine ⟨⟨hj.hep.keep fun k hk => hV k (fun e => n6 (by rw [← e]; exact hk)), ⟨W, hr.keep fun b _ hf => ⟨hV b fun e => hf (.inr (.inr e)), hf⟩⟩, hj.here, hj.sm, hj.smx, hj.len, hj.lim, fun k hk => by rw [hz]; exact hj.xlt k hk⟩, ?_, fun k hk => ?_, ?_, ?_, hs⟩
  · exact hB.trans ⟨ho, ht, hp, by rw [hz]; exact Nat.le_refl _, fun k hk => hV k (by omega)⟩
  · have := hH k hk
    refine ⟨Nat.lt_of_le_of_ne this fun e => n3 (by rw [e]; exact hk), fun e => n6 (by rw [← e]; exact hk)⟩
  · exact (hV _ (by omega)).trans ((hc.block _ l3 fun e => by have := h.high _ e; omega).trans h.b3)
  · exact h6 ((hc.block _ l6 fun e => (h.high _ e).2 rfl).trans h.b6)
theorem MadeJ.below' {w0 wr w' : World} {g s : Nat} {F : Nat → Prop} {m : Hm} {vl : Value} {L : Pls} (h : MadeJ w0 wr g s F m vl L) (hb : Below wr.heap.size wr w') : MadeJ w0 w' g s F m vl L :=
  ⟨h.jt.below hb, h.below.trans (hb.mono h.below.size), h.high, (hb.block _ (Array.getElem?_eq_some_iff.1 h.b3).1).trans h.b3, (hb.block _ (Array.getElem?_eq_some_iff.1 h.b6).1).trans h.b6, h.hs⟩
theorem MadeJ.start {w w2 : World} {g : Nat} {F : Nat → Prop} (hh : Hep w2 g F (newM 40)) (hF : ∀ k, F k → (w.alloc (.cells #[.slice none 0 0, .int .i64 0] 33)).heap.size ≤ k) (hb : Below (w.alloc (.cells #[.slice none 0 0, .int .i64 0] 33)).heap.size (w.alloc (.cells #[.slice none 0 0, .int .i64 0] 33)) w2) :
    MadeJ w (w2.alloc (.cells #[.slice none 0 0, .int .i64 40] 33)) g w2.heap.size F (newM 40) (.slice none 0 0) [] := by
  have hb3 : Below w2.heap.size w2 (w2.alloc (.cells #[.slice none 0 0, .int .i64 40] 33)) := (Below.refl _ _).alloc (Nat.le_refl _) _
  have hz : (w.alloc (.cells #[.slice none 0 0, .int .i64 0] 33)).heap.size = w.heap.size + 1 := by simp
  rw [hz] at hF hb
  have hsz := hb.size
  rw [hz] at hsz
  have hlt := hh.lt
  refine ⟨⟨hh.below hb3, ⟨_, RHp.empty _ _⟩, fun i c hc => ?_, fun i c hc => ?_, fun i c hc => ?_, ?_, by omega, ?_⟩, ?_, fun k hk => ⟨hF k hk, fun e => by have := hlt k hk; omega⟩, ?_, heap_alloc_new _ _, by omega⟩
  · rw [show (newM 40).L = [] from rfl, clAt_ge (Nat.zero_le i)] at hc; cases hc
  · rw [show (newM 40).L = [] from rfl, clAt_ge (Nat.zero_le i)] at hc; cases hc
  · rw [clAt_ge (Nat.zero_le i)] at hc; cases hc
  · exact Int.ofNat_le.2 (Nat.zero_le 40)
  · rintro k (rfl | rfl) <;> simp <;> omega
  · exact (((Below.refl _ _).alloc (Nat.le_refl _) _).trans (hb.mono (by omega))).trans (hb3.mono (by omega))
  · exact (heap_alloc_old _ _ (by omega)).trans ((hb.block _ (by omega)).trans (heap_alloc_new _ _))
theorem MadeJ.after {w0 wr w2 : World} {g s : Nat} {F F' : Nat → Prop} {m : Hm} {vl : Value} {L : Pls} (h : MadeJ w0 wr g s F m vl L) (hc : Chp F F' wr w2) : (∀ B o v, B < w0.heap.size → wr.cell? ⟨B, o, none⟩ = some v → w2.cell? ⟨B, o, none⟩ = some v) ∧ (∀ o v, wr.cell? ⟨s, o, none⟩ = some v → w2.cell? ⟨s, o, none⟩ = some v) := by
  have l6 := (Array.getElem?_eq_some_iff.1 h.b6).1
  have l3 := (Array.getElem?_eq_some_iff.1 h.b3).1
  exact ⟨fun B o v hB hv => (World.cell?_of_block (hc.block B (by omega) fun e => by have := (h.high _ e).1; omega)).trans hv, fun o v hv => (World.cell?_of_block (hc.block s l6 fun e => (h.high _ e).2 rfl)).trans hv⟩
set_option maxHeartbeats 6400000 in
theorem made_any (q : Option Addr) (n c : Nat) (f : Nat → Opv) (w : World) (hO : OpsIn w q n f) (hl : lightM f n) : Calls Try.prog 7 #[.slice q n c] w fun e w' => ∃ g F m v, e = .returned (.tuple #[.pointer (some ⟨g, 0, none⟩), v]) ∧ (∃ qq nn cc, v = .agg #[.slice qq nn cc, .int .i64 40]) ∧ Hep w' g F m ∧ Here m.L ∧ Sm m.L ∧ Below w.heap.size w w' ∧ (∀ k, F k → w.heap.size ≤ k) := by
  have HO := Lib.hid hO
  have HL := Lib.hid hl
  have hn50 : (n : Int) ≤ 50 := by have := hl.1; omega
  clear hO hl
  have hn3 := new_any 40 (by decide) (by decide) (w.alloc (.cells #[.slice none 0 0, .int .i64 0] 33))
  rw [show ((40 : Nat) : Int) = 40 from rfl] at hn3
  have HN := Lib.hid hn3
  clear hn3
  go_enter Try.func7, Try.ntmps7
  go_upto_region 2 with (go_at_call 28; with_reducible refine HN.out.mono ?_; rintro e w1 ⟨g, F, rfl, hh, hF, -, hb1⟩)
  have HJ0 := Lib.hid (MadeJ.start hh hF hb1)
  clear hh hF hb1
  go_upto_region 4 with fail
  generalize w1.alloc (.cells #[.slice none 0 0, .int .i64 40] 33) = wa at *
  have HSZ : Hid (w.heap.size < w1.heap.size) := Lib.hid HJ0.out.hs
  generalize w1.heap.size = s at *
  go_loopw [7] (fun iv wr => ∃ i : Nat, i ≤ n ∧ iv = .int .i64 (i : Int) ∧ ∃ F m vl L, Hid (MadeJ w wr g s F m vl L)) (fun iv _ => n - (intOf iv).toNat)
  case atStart => exact ⟨0, by omega, by go_num, _, _, _, _, HJ0⟩
  case round =>
    obtain ⟨i, hi, rfl, F1, m1, vl, L1, HJ⟩ := hrel
    clear HJ0
    obtain ⟨q0, n0, c0, rfl⟩ := HJ.out.jt.form
    by_cases hlt : i < n
    · obtain ⟨B, a, rfl, hat⟩ := HO.out (by omega)
      have hBl := World.block_lt_of_cell? w _ (hat i hlt).c0
      have HBL := Lib.hid hBl
      clear hBl
      have hx := (hat i hlt).below HJ.out.below
      have HSA : Hid (∀ w1, Below wr.heap.size wr w1 → Calls Try.prog 30 #[.pointer (some ⟨g, 0, none⟩), .agg #[.slice q0 n0 c0, .int .i64 40], .agg (opA (f i).kind (f i).i (f i).v.1 (f i).v.2 (f i).x.1 (f i).x.2 (f i).b (f i).o.k (f i).q (f i).n (f i).c (f i).p (f i).d (f i).e)] w1 fun ex w' => StepR w1 w' g F1 (fun k => k = w.heap.size ∨ k = s) 40 ex) := Lib.hid fun w1 hb => step_any (HJ.out.jt.below hb) (f i) (hx.o.below hb) hx.hq hx.hp (HL.out.2 i hlt).1 (HL.out.2 i hlt).2 hx.hv hx.hx hx.hb
      obtain ⟨x0, x1, x2, x3, x4, x5, x6, x7, x8, x9, -, -, -, -, -, -⟩ := hx
      have h6 := HJ.out.b6
      have y0 := cell_of_row _ _ 0 _ _ _ h6
      have y1 := cell_of_row _ _ 1 _ _ _ h6
      simp at y0 y1
      have hin : (i : Int) < (n : Int) := by omega
      clear hat HO HL HN
      generalize (f i).kind = fk at *
      generalize (f i).i = fi at *
      generalize (f i).v.1 = fv1 at *
      generalize (f i).v.2 = fv2 at *
      generalize (f i).x.1 = fx1 at *
      generalize (f i).x.2 = fx2 at *
      generalize (f i).b = fb at *
      generalize (f i).o.k = fo at *
      generalize (f i).q = fq at *
      generalize (f i).n = fn at *
      generalize (f i).c = fc at *
      generalize (f i).p = fp at *
      generalize (f i).d = fd at *
      generalize (f i).e = fe at *
      unfold opA at HSA
      go_upto_region 6 with fail
      go_region_with (first | (go_at_call 30; refine (HSA.out _ (by exact (Below.refl _ _).drew)).mono ?_; rintro ex w4 ⟨vl4, b4, F4, m4, L4, rfl, hj4, hc4⟩; have hz6 := (hc4.of_drew.block s (Array.getElem?_eq_some_iff.1 HJ.out.b6).1 fun e => (HJ.out.high _ e).2 rfl).trans HJ.out.b6; have f6 := frozen_of_row _ _ 0 _ _ hz6; have f7 := frozen_of_row _ _ 1 _ _ hz6; have g6 := cell_of_row _ _ 0 _ _ _ hz6; have g7 := cell_of_row _ _ 1 _ _ _ hz6; simp at g6 g7;  obtain ⟨q4, n4, c4, rfl⟩ := hj4.form))
      all_goals (
        have HN := Lib.hid (HJ.out.step (V := ((w4.setCell ⟨s, 0, none⟩ (.slice q4 n4 c4)).setCell ⟨s, 1, none⟩ (.int .i64 40))) hj4 hc4.of_drew (fun k hk => (heap_setCell_other _ _ _ _ hk).trans (heap_setCell_other _ _ _ _ hk)) rfl rfl rfl (by simp) (fun h => two_row w4 s _ _ _ _ _ h))
        clear hz6 f6 f7 g6 g7 hj4 hc4 x0 x1 x2 x3 x4 x5 x6 x7 x8 x9 y0 y1 h6 HSA HJ
        go_wp2_with fail
        go_roundw
        case rel => exact ⟨i + 1, by omega, by go_num, F4, m4, _, L4, HN⟩
        case measure => simp [intOf]; omega)
    · obtain rfl : i = n := by omega
      have h6 := HJ.out.b6
      have h3 := HJ.out.b3
      have y0 := cell_of_row _ _ 0 _ _ _ h6
      have y1 := cell_of_row _ _ 1 _ _ _ h6
      have f3 := frozen_of_row _ _ 0 _ _ h3
      have f4 := frozen_of_row _ _ 1 _ _ h3
      have z0 := cell_of_row _ _ 0 _ _ _ h3
      have z1 := cell_of_row _ _ 1 _ _ _ h3
      simp at y0 y1 z0 z1
      have hF := two_row wr w.heap.size _ _ _ (.slice q0 n0 c0) (.int .i64 40) h3
      have HFIN : Hid (∀ V : World, V.os = wr.os → V.tape = wr.tape → V.output = wr.output → V.heap.size = wr.heap.size → (∀ k, k ≠ w.heap.size → V.heap[k]? = wr.heap[k]?) → Hep V g F1 m1 ∧ Here m1.L ∧ Sm m1.L ∧ Below w.heap.size w V ∧ (∀ k, F1 k → w.heap.size ≤ k)) := Lib.hid fun V e1 e2 e3 e4 e5 => by
        have hh := HJ.out.high
        refine ⟨HJ.out.jt.hep.keep fun k hk => e5 k (by have := (hh k hk).1; omega), HJ.out.jt.here, HJ.out.jt.sm, HJ.out.below.trans ⟨e1, e2, e3, by rw [e4]; exact Nat.le_refl _, fun k hk => e5 k (by omega)⟩, fun k hk => Nat.le_of_lt (hh k hk).1⟩
      clear h3 h6 HJ HO HL HN
      go_wp2_with fail
      go_region
      have hF' : (World.drew ((wr.setCell ⟨w.heap.size, 0, none⟩ (.slice q0 n0 c0)).setCell ⟨w.heap.size, 1, none⟩ (.int .i64 40))).heap[w.heap.size]? = _ := hF
      have HEND := Lib.hid (HFIN.out (World.drew ((wr.setCell ⟨w.heap.size, 0, none⟩ (.slice q0 n0 c0)).setCell ⟨w.heap.size, 1, none⟩ (.int .i64 40))) rfl rfl rfl (by simp) (fun k hk => (heap_setCell_other _ _ _ _ hk).trans (heap_setCell_other _ _ _ _ hk)))
      clear HFIN hF y0 y1 z0 z1 f3 f4
      generalize World.drew ((wr.setCell ⟨w.heap.size, 0, none⟩ (.slice q0 n0 c0)).setCell ⟨w.heap.size, 1, none⟩ (.int .i64 40)) = V at *
      have v0 := cell_of_row _ _ 0 _ _ _ hF'
      have v1 := cell_of_row _ _ 1 _ _ _ hF'
      simp at v0 v1
      go_wp2_with fail
      exact bodyPost_ret (v := .tuple #[.pointer (some ⟨g, 0, none⟩), .agg #[.slice q0 n0 c0, .int .i64 40]]) (by simp [results, Try.results7, go_sem, v0, v1]) rfl ⟨g, F1, m1, _, rfl, ⟨_, _, _, rfl⟩, HEND.out⟩
end Go.Proofs.Ythmajccajmnfcaa
