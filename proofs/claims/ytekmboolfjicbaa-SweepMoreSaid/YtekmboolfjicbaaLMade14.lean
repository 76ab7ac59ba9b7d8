/- made: a memory behind some steps. -/
import Derived.Test.YtekmboolfjicbaaLOps14
import Derived.BigRegion
set_option maxRecDepth 20000
set_option linter.unusedSimpArgs false
set_option linter.unusedVariables false
namespace Go.Proofs.Ytekmboolfjicbaa
open Go.RowKit

theorem Jt.form {w : World} {g : Nat} {F X : Nat → Prop} {m : Hm} {vl : Value} {L : Pls} {lim : Int} (h : Jt w g F X m vl L lim) : ∃ q n c, vl = .slice q n c := by
  obtain ⟨W, hr⟩ := h.row
  obtain ⟨q, c, e⟩ := hr.form
  exact ⟨q, _, c, e⟩
/-- What is left of the two behind a step. -/
structure MadeJ (w0 wr : World) (g s : Nat) (F : Nat → Prop) (m : Hm) (vl : Value) (L : Pls) : Prop where
  jt : Jt wr g F (fun k => k = w0.heap.size ∨ k = s) m vl L 40
  below : Below w0.heap.size w0 wr
  high : ∀ k, F k → w0.heap.size < k ∧ k ≠ s
  b3 : wr.heap[w0.heap.size]? = some (.cells #[.slice none 0 0, .int .i64 0] 29 (0, 0))
  b6 : wr.heap[s]? = some (.cells #[vl, .int .i64 40] 29 (0, 0))
  hs : w0.heap.size < s
theorem MadeJ.step {w0 wr w2 V : World} {g s : Nat} {F F' : Nat → Prop} {m m' : Hm} {vl vl' : Value} {L L' : Pls} (h : MadeJ w0 wr g s F m vl L) (hj : Jt w2 g F' (fun k => k = w0.heap.size ∨ k = s) m' vl' L' 40) (hc : Chp F F' wr w2)
    (hV : ∀ k, k ≠ s → V.heap[k]? = w2.heap[k]?) (ho : V.os = w2.os) (ht : V.tape = w2.tape) (hp : V.output = w2.output) (hz : V.heap.size = w2.heap.size)
    (h6 : w2.heap[s]? = some (.cells #[vl, .int .i64 40] 29 (0, 0)) → V.heap[s]? = some (.cells #[vl', .int .i64 40] 29 (0, 0))) : MadeJ w0 V g s F' m' vl' L' := by
  have l3 := (Array.getElem?_eq_some_iff.1 h.b3).1
  have l6 := (Array.getElem?_eq_some_iff.1 h.b6).1
  have hs := h.hs
  have n3 : ¬ F' w0.heap.size := hc.out l3 fun e => by have := h.high _ e; omega
  have n6 : ¬ F' s := hc.out l6 fun e => (h.high _ e).2 rfl
  have hB : Below w0.heap.size w0 w2 := hc.below h.below h.below.size fun k hk => Nat.le_of_lt (h.high k hk).1
  have hH := hc.high h.below.size fun k hk => Nat.le_of_lt (h.high k hk).1
  obtain ⟨W, hr⟩ := hj.row
  refine ⟨⟨hj.hep.keep fun k hk => hV k (fun e => n6 (by rw [← e]; exact hk)), ⟨W, hr.keep fun b _ hf => ⟨hV b fun e => hf (.inr (.inr e)), hf⟩⟩, hj.here, hj.sm, hj.smx, hj.len, hj.lim, fun k hk => by rw [hz]; exact hj.xlt k hk⟩, ?_, fun k hk => ?_, ?_, ?_, hs⟩
  · exact hB.trans ⟨ho, ht, hp, by rw [hz]; exact Nat.le_refl _, fun k hk => hV k (by omega)⟩
  · have := hH k hk
    refine ⟨Nat.lt_of_le_of_ne this fun e => n3 (by rw [e]; exact hk), fun e => n6 (by rw [← e]; exact hk)⟩
  · exact (hV _ (by omega)).trans ((hc.block _ l3 fun e => by have := h.high _ e; omega).trans h.b3)
  · exact h6 ((hc.block _ l6 fun e => (h.high _ e).2 rfl).trans h.b6)
theorem MadeJ.below' {w0 wr w' : World} {g s : Nat} {F : Nat → Prop} {m : Hm} {vl : Value} {L : Pls} (h : MadeJ w0 wr g s F m vl L) (hb : Below wr.heap.size wr w') : MadeJ w0 w' g s F m vl L :=
  ⟨h.jt.below hb, h.below.trans (hb.mono h.below.size), h.high, (hb.block _ (Array.getElem?_eq_some_iff.1 h.b3).1).trans h.b3, (hb.block _ (Array.getElem?_eq_some_iff.1 h.b6).1).trans h.b6, h.hs⟩
theorem MadeJ.start {w w2 : World} {g : Nat} {F : Nat → Prop} (hh : Hep w2 g F (newM 40)) (hF : ∀ k, F k → (w.alloc (.cells #[.slice none 0 0, .int .i64 0] 29)).heap.size ≤ k) (hb : Below (w.alloc (.cells #[.slice none 0 0, .int .i64 0] 29)).heap.size (w.alloc (.cells #[.slice none 0 0, .int .i64 0] 29)) w2) :
    MadeJ w (w2.alloc (.cells #[.slice none 0 0, .int .i64 40] 29)) g w2.heap.size F (newM 40) (.slice none 0 0) [] := by
  have hb3 : Below w2.heap.size w2 (w2.alloc (.cells #[.slice none 0 0, .int .i64 40] 29)) := (Below.refl _ _).alloc (Nat.le_refl _) _
  have hz : (w.alloc (.cells #[.slice none 0 0, .int .i64 0] 29)).heap.size = w.heap.size + 1 := by simp
  rw [hz] at hF hb
  have hsz := hb.size
  rw [hz] at hsz
  have hlt := hh.lt
  refine ⟨⟨hh.below hb3, ⟨_, RHp.empty _ _⟩, fun i c hc => ?_, fun i c hc => ?_, fun i c hc => ?_, ?_, by omega, ?_⟩, ?_, fun k hk => ⟨hF k hk, fun e => by have := hlt k hk; omega⟩, ?_, heap_alloc_new _ _, by omega⟩
  · rw [show (newM 40).L = [] from rfl, clAt_ge (Nat.zero_le i)] at hc; cases hc
  · rw [show (newM 40).L = [] from rfl, clAt_ge (Nat.zero_le i)] at hc; cases hc
  · rw [clAt_ge (Nat.zero_le i)] at hc; cases hc
  · exact Int.ofNat_le.2 (Nat.zero_le 40)
  · rintro k (rfl | rfl) <;> simp <;> omega
  · exact (((Below.refl _ _).alloc (Nat.le_refl _) _).trans (hb.mono (by omega))).trans (hb3.mono (by omega))
  · exact (heap_alloc_old _ _ (by omega)).trans ((hb.block _ (by omega)).trans (heap_alloc_new _ _))
theorem MadeJ.after {w0 wr w2 : World} {g s : Nat} {F F' : Nat → Prop} {m : Hm} {vl : Value} {L : Pls} (h : MadeJ w0 wr g s F m vl L) (hc : Chp F F' wr w2) : (∀ B o v, B < w0.heap.size → wr.cell? ⟨B, o, none⟩ = some v → w2.cell? ⟨B, o, none⟩ = some v) ∧ (∀ o v, wr.cell? ⟨s, o, none⟩ = some v → w2.cell? ⟨s, o, none⟩ = some v) := by
  have l6 := (Array.getElem?_eq_some_iff.1 h.b6).1
  have l3 := (Array.getElem?_eq_some_iff.1 h.b3).1
  exact ⟨fun B o v hB hv => (World.cell?_of_block (hc.block B (by omega) fun e => by have := (h.high _ e).1; omega)).trans hv, fun o v hv => (World.cell?_of_block (hc.block s l6 fun e => (h.high _ e).2 rfl)).trans hv⟩
theorem MadeJ.fin {w0 wr w3 : World} {g s : Nat} {F F2 : Nat → Prop} {m m2 : Hm} {vl : Value} {L L2 : Pls} {q4 : Option Addr} {n4 c4 : Nat} (h : MadeJ w0 wr g s F m vl L) (hj : Jt w3 g F2 (fun k => k = w0.heap.size ∨ k = s) m2 (.slice q4 n4 c4) L2 40) (hc : Chp F F2 wr w3) :
    w3.heap[s]? = some (.cells #[vl, .int .i64 40] 29 (0, 0)) ∧ MadeJ w0 ((w3.setCell ⟨s, 0, none⟩ (.slice q4 n4 c4)).setCell ⟨s, 1, none⟩ (.int .i64 40)) g s F2 m2 (.slice q4 n4 c4) L2 :=
  ⟨(hc.block s (Array.getElem?_eq_some_iff.1 h.b6).1 fun e => (h.high _ e).2 rfl).trans h.b6,
   h.step hj hc (fun k hk => (heap_setCell_other _ _ _ _ hk).trans (heap_setCell_other _ _ _ _ hk)) rfl rfl rfl (by simp) fun h6 => two_row w3 s _ _ _ _ _ h6⟩
/-- What fits, behind a step. -/
theorem ft_put {L : Pls} {i : Nat} {c : Cl} (h : Ft L) (hi : i ≤ L.length) (hc : FitV c.o.vs) : Ft (putH L i c) := by
  intro j d hd
  rw [clAt_put hi] at hd
  split at hd
  · cases hd; exact hc
  · exact h j d hd
theorem ft_set {L : Pls} {i : Nat} {c : Option Cl} (h : Ft L) (hi : i < L.length) (hc : ∀ d, c = some d → FitV d.o.vs) : Ft (L.set i c) := by
  intro j d hd
  rw [clAt_set hi] at hd
  split at hd
  · exact hc d hd
  · exact h j d hd
theorem add_ft {m : Hm} {o : Ob} (h : Ft m.L) (ho : FitV o.vs) : Ft (addM m o).L := by
  unfold addM
  split
  · exact ft_put h (gapH_le _) ho
  · exact h
theorem set_ft {m : Hm} {v : Int × Int} {i : Int} {y : Int × Int} (h : Ft m.L) (hy : I64 y.1 ∧ I64 y.2) : Ft (setM m v i y).L := by
  rcases setM_cases m v i y with e | ⟨c, _, hc, e⟩
  · rw [e]; exact h
  · rw [e]; exact ft_set h (clAt_some hc) fun d hd => by
      cases hd
      intro x hx
      rcases List.mem_or_eq_of_mem_set hx with h1 | h1
      · exact h _ c hc x h1
      · rw [h1]; exact hy
theorem drop_ft {m : Hm} {v : Int × Int} (h : Ft m.L) : Ft (dropM m v).L := by
  rcases dropM_cases m v with e | ⟨d, _, hd, e⟩
  · rw [e]; exact h
  · rw [e, drop_L]; exact ft_set h (clAt_some hd) fun d hd => by cases hd
section
variable {w w2 : World} {g : Nat} {F X : Nat → Prop} {m m2 : Hm} {vl : Value} {L L2 : Pls} {lim : Int}
/-- The memory's step. -/
theorem Jt.mem (h : Jt w g F X m vl L lim) (hX : ∀ k, X k → ¬ F k) (hw : WentH F g m2 w w2) (h1 : Here m2.L) (h2 : Sm m2.L) : ∃ F2, Jt w2 g F2 X m2 vl L lim ∧ Chp F F2 w w2 ∧ ∀ k, X k → ¬ F2 k := by
  obtain ⟨F2, hh, hc⟩ := hw
  obtain ⟨W, hr⟩ := h.row
  refine ⟨F2, ⟨hh, ⟨W, hr.keep fun b hb hf => ⟨hc.block b hb fun e => hf (.inl e), fun e => e.elim (fun e => hc.out hb (fun e2 => hf (.inl e2)) e) (fun e => hf (.inr e))⟩⟩, h1, h2, h.smx, h.len, h.lim, fun k hk => Nat.lt_of_lt_of_le (h.xlt k hk) hc.size⟩, hc, fun k hk => hc.out (h.xlt k hk) (hX k hk)⟩
/-- The row's step. -/
theorem Jt.rowg (h : Jt w g F X m vl L lim) {v : Value} (hg : RGoes w w2 (Fx F X) lim L2 v) (h1 : Sm L2) (h2 : (L2.length : Int) ≤ lim) : ∃ vl2, v = .agg #[vl2, .int .i64 lim] ∧ Jt w2 g F X m vl2 L2 lim ∧ Below w.heap.size w w2 := by
  obtain ⟨vl2, W2, rfl, hr2, hb2⟩ := hg
  exact ⟨vl2, rfl, ⟨h.hep.below hb2, ⟨W2, hr2⟩, h.here, h.sm, h1, h2, h.lim, fun k hk => Nat.lt_of_lt_of_le (h.xlt k hk) hb2.size⟩, hb2⟩
end
set_option maxHeartbeats 12800000 in
theorem made_any (q : Option Addr) (n c : Nat) (f : Nat → Opv) (w : World) (hO : OpsIn w q n f) (hl : lightM f n) : Calls Try.prog 7 #[.slice q n c] w fun e w' => ∃ g F m v, e = .returned (.tuple #[.pointer (some ⟨g, 0, none⟩), v]) ∧ (∃ qq nn cc, v = .agg #[.slice qq nn cc, .int .i64 40]) ∧ Hep w' g F m ∧ Here m.L ∧ Sm m.L ∧ Ft m.L ∧ Below w.heap.size w w' ∧ (∀ k, F k → w.heap.size ≤ k) := by
  have HO := Lib.hid hO
  have HL := Lib.hid hl
  have hn50 : (n : Int) ≤ 50 := by have := hl.1; omega
  clear hO hl
  have hn3 := new_any 40 (by decide) (by decide) (w.alloc (.cells #[.slice none 0 0, .int .i64 0] 29))
  rw [show ((40 : Nat) : Int) = 40 from rfl] at hn3
  have HN := Lib.hid hn3
  clear hn3
  go_enter Try.func7, Try.ntmps7
  go_upto_region 2 with (go_at_call 17; with_reducible refine HN.out.mono ?_; rintro e w1 ⟨g, F, rfl, hh, hF, -, hb1⟩)
  have HJ0 : Hid (MadeJ w (w1.alloc (.cells #[.slice none 0 0, .int .i64 40] 29)) g w1.heap.size F (newM 40) (.slice none 0 0) [] ∧ Ft (newM 40).L) := Lib.hid ⟨MadeJ.start hh hF hb1, fun i c hc => (by rw [show (newM 40).L = [] from rfl, clAt_ge (Nat.zero_le i)] at hc; cases hc)⟩
  clear hh hF hb1
  go_upto_region 4 with fail
  generalize w1.alloc (.cells #[.slice none 0 0, .int .i64 40] 29) = wa at *
  have HSZ : Hid (w.heap.size < w1.heap.size) := Lib.hid HJ0.out.1.hs
  generalize w1.heap.size = s at *
  go_loopw [7] (fun iv wr => ∃ i : Nat, i ≤ n ∧ iv = .int .i64 (i : Int) ∧ ∃ F m vl L, Hid (MadeJ w wr g s F m vl L ∧ Ft m.L)) (fun iv _ => n - (intOf iv).toNat)
  case atStart => exact ⟨0, by omega, by go_num, _, _, _, _, HJ0⟩
  case round =>
    obtain ⟨i, hi, rfl, F1, m1, vl, L1, HJ⟩ := hrel
    clear HJ0
    obtain ⟨q0, n0, c0, rfl⟩ := HJ.out.1.jt.form
    by_cases hlt : i < n
    · obtain ⟨B, a, rfl, hat⟩ := HO.out (by omega)
      have hx := (hat i hlt).below HJ.out.1.below
      have HLT : Hid (i + 1 ≤ n) := Lib.hid hlt
      have hin : (i : Int) < (n : Int) := by omega
      have HLI := Lib.hid (HL.out.2 i hlt)
      have HOW : Hid (∀ w2, Below w.heap.size w w2 → ObV w2 (f i).q (f i).n (f i).p (f i).d (f i).o) := Lib.hid fun w2 hb => ((hat i hlt).below hb).o
      clear hat HO HL HN
      generalize f i = x at *
      obtain ⟨fk, fi, fv, fx, fq, fn, fc, fp, fd, fe, fo⟩ := x
      obtain ⟨x0, x1, x2, x3, x4, x5, x6, x7, x8, hob, hq, hp, hv, hxx⟩ := hx
      dsimp only at x0 x1 x2 x3 x4 x5 x6 x7 x8 hob hq hp hv hxx HLI HOW
      have HOB := Lib.hid hob
      have HQ := Lib.hid hq
      have HPP := Lib.hid hp
      have HV := Lib.hid hv
      have HXX := Lib.hid hxx
      obtain ⟨kk, HK⟩ : ∃ k, Hid (fo.k = k) := ⟨_, Lib.hid rfl⟩
      rw [HK.out] at x6
      obtain ⟨v1, v2⟩ := fv
      obtain ⟨y1, y2⟩ := fx
      dsimp only at x2 x3 x4 x5
      clear hob hq hp hv hxx
      go_upto_region 7 with fail
      have HX8 : Hid ((wr.alloc (.cells #[.int .i64 fk, .int .i64 fi, .int .i64 v1, .int .i64 v2, .int .i64 y1, .int .i64 y2, .int .i64 kk, .slice fq fn fc, .slice fp fd fe] 63)).heap[wr.heap.size]? = some (.cells #[.int .i64 fk, .int .i64 fi, .int .i64 v1, .int .i64 v2, .int .i64 y1, .int .i64 y2, .int .i64 kk, .slice fq fn fc, .slice fp fd fe] 63 (0, 0))) := Lib.hid (heap_alloc_new wr _)
      have HB8 : Hid (Below wr.heap.size wr (wr.alloc (.cells #[.int .i64 fk, .int .i64 fi, .int .i64 v1, .int .i64 v2, .int .i64 y1, .int .i64 y2, .int .i64 kk, .slice fq fn fc, .slice fp fd fe] 63))) := Lib.hid (alloc_below _ _)
      have HXF : Hid (∀ k, (k = w.heap.size ∨ k = s) → ¬ F1 k) := Lib.hid fun k hk hf => hk.elim (fun e => by have := (HJ.out.1.high _ hf).1; omega) (fun e => (HJ.out.1.high _ hf).2 e)
      have HBW : Hid (∀ w2 F2, Chp F1 F2 wr w2 → Below w.heap.size w w2) := Lib.hid fun w2 F2 hc => hc.below HJ.out.1.below HJ.out.1.below.size fun k hk => Nat.le_of_lt (HJ.out.1.high k hk).1
      have HJA : Hid (Jt (wr.alloc (.cells #[.int .i64 fk, .int .i64 fi, .int .i64 v1, .int .i64 v2, .int .i64 y1, .int .i64 y2, .int .i64 kk, .slice fq fn fc, .slice fp fd fe] 63)) g F1 (fun k => k = w.heap.size ∨ k = s) m1 (.slice q0 n0 c0) L1 40) := Lib.hid (HJ.out.1.jt.below HB8.out)
      by_cases k0 : fk = 0
      · have HA : Hid (∀ w', Below wr.heap.size wr w' → Calls Try.prog 18 #[.pointer (some ⟨g, 0, none⟩), .agg #[.int .i64 kk, .slice fq fn fc, .slice fp fd fe]] w' fun ex w2 => (∃ a b er, ex = .returned (.tuple #[.agg #[.int .i64 a, .int .i64 b], .int .i64 er])) ∧ WentH F1 g (addM m1 fo) w' w2) := Lib.hid fun w' hb => by
          obtain ⟨vr, mb, S, hh, rfl⟩ := HJ.out.1.jt.hep
          have h1 := (hh.below hb).add fo fq fp fn fc fd fe (HOB.out.below hb) (by have := HLI.out.1; omega) (by have := HLI.out.2; omega)
          rw [HK.out] at h1
          exact h1.mono fun ex w2 ⟨he, hw⟩ => ⟨⟨_, _, _, he⟩, hw⟩
        have HR : Hid (∀ w2 F2, Jt w2 g F2 (fun k => k = w.heap.size ∨ k = s) (addM m1 fo) (.slice q0 n0 c0) L1 40 → Below w.heap.size w w2 → Calls Try.prog 21 #[.agg #[.slice q0 n0 c0, .int .i64 40], .agg #[.int .i64 kk, .slice fq fn fc, .slice fp fd fe]] w2 fun ex w3 => ∃ v, (∃ a b er, ex = .returned (.tuple #[v, .agg #[.int .i64 a, .int .i64 b], .int .i64 er])) ∧ RGoes w2 w3 (Fx F2 (fun k => k = w.heap.size ∨ k = s)) 40 (rAddL L1 40 fo) v) := Lib.hid fun w2 F2 hj hb => by
          obtain ⟨W, hr⟩ := hj.row
          have hl := hj.len
          have h1 := hr.add (by omega) hj.flt 40 fo fq fp fn fc fd fe (HOW.out w2 hb).w HQ.out HPP.out (by have := HLI.out.1; omega) (by have := HLI.out.2; omega)
          rw [HK.out] at h1
          exact h1.mono fun ex w3 ⟨v, he, hg⟩ => ⟨v, ⟨_, _, _, he⟩, hg⟩
        have HGO : Hid (∀ w2, WentH F1 g (addM m1 fo) (wr.alloc (.cells #[.int .i64 fk, .int .i64 fi, .int .i64 v1, .int .i64 v2, .int .i64 y1, .int .i64 y2, .int .i64 kk, .slice fq fn fc, .slice fp fd fe] 63)) w2 → w2.heap[wr.heap.size]? = some (.cells #[.int .i64 fk, .int .i64 fi, .int .i64 v1, .int .i64 v2, .int .i64 y1, .int .i64 y2, .int .i64 kk, .slice fq fn fc, .slice fp fd fe] 63 (0, 0)) ∧ w2.heap[s]? = some (.cells #[.slice q0 n0 c0, .int .i64 40] 29 (0, 0)) ∧ ∃ F2, Jt w2 g F2 (fun k => k = w.heap.size ∨ k = s) (addM m1 fo) (.slice q0 n0 c0) L1 40 ∧ Below w.heap.size w w2 ∧
            ∀ w3 v, RGoes w2 w3 (Fx F2 (fun k => k = w.heap.size ∨ k = s)) 40 (rAddL L1 40 fo) v → ∃ q4 n4 c4, v = .agg #[.slice q4 n4 c4, .int .i64 40] ∧ w3.heap[s]? = some (.cells #[.slice q0 n0 c0, .int .i64 40] 29 (0, 0)) ∧ (MadeJ w ((w3.setCell ⟨s, 0, none⟩ (.slice q4 n4 c4)).setCell ⟨s, 1, none⟩ (.int .i64 40)) g s F2 (addM m1 fo) (.slice q4 n4 c4) (rAddL L1 40 fo) ∧ Ft (addM m1 fo).L)) := Lib.hid fun w2 hw => by
          obtain ⟨F2, hj2, hc2, -⟩ := HJA.out.mem HXF.out hw (add_here HJ.out.1.jt.here) (add_sm HJ.out.1.jt.sm)
          have hc := (Chp.of_below (F := F1) HB8.out).trans hc2
          refine ⟨(hc2.block _ (lt_of_block HX8.out) (fun e => by have := HJ.out.1.jt.hep.lt _ e; omega)).trans HX8.out, (hc.block s (Array.getElem?_eq_some_iff.1 HJ.out.1.b6).1 fun e => (HJ.out.1.high _ e).2 rfl).trans HJ.out.1.b6, F2, hj2, HBW.out w2 F2 hc, fun w3 v hg => ?_⟩
          obtain ⟨vl2, rfl, hj3, hb3⟩ := hj2.rowg hg (radd_sm HJ.out.1.jt.smx) (radd_len HJ.out.1.jt.len)
          obtain ⟨q4, n4, c4, rfl⟩ := hj3.form
          obtain ⟨u1, u2⟩ := HJ.out.1.fin hj3 (hc.trans (Chp.of_below hb3))
          exact ⟨q4, n4, c4, rfl, u1, u2, add_ft HJ.out.2 HOB.out.fit⟩
        subst k0
        have z := HX8.out
        have b0 := cell_of_row _ _ 0 _ _ _ z
        have b6 := cell_of_row _ _ 6 _ _ _ z
        have b7 := cell_of_row _ _ 7 _ _ _ z
        have b8 := cell_of_row _ _ 8 _ _ _ z
        simp at b0 b6 b7 b8
        clear z HJ HJA HBW HXF x0 x1 x2 x3 x4 x5 x6 x7 x8
        go_wp2_with (first
          | (go_at_call 18; with_reducible refine (HA.out _ HB8.out).mono ?_; rintro ex w2 ⟨⟨a2, b2, er2, rfl⟩, hw2⟩; obtain ⟨u0, u1, F2, hj2, hb2, hg2⟩ := HGO.out w2 hw2; have HJ2 := Lib.hid hj2; have HB2 := Lib.hid hb2; have HG2 := Lib.hid hg2; have e0 := cell_of_row _ _ 0 _ _ _ u0; have e6 := cell_of_row _ _ 6 _ _ _ u0; have e7 := cell_of_row _ _ 7 _ _ _ u0; have e8 := cell_of_row _ _ 8 _ _ _ u0; simp at e0 e6 e7 e8; have s0 := cell_of_row _ _ 0 _ _ _ u1; have s1 := cell_of_row _ _ 1 _ _ _ u1; simp at s0 s1; clear hj2 hb2 hg2 u0 u1 hw2)
          | (go_at_call 21; with_reducible refine (HR.out _ _ HJ2.out HB2.out).mono ?_; rintro ex w3 ⟨v3, ⟨a3, b3, er3, rfl⟩, hg3⟩; obtain ⟨q4, n4, c4, rfl, u3, hM⟩ := HG2.out w3 v3 hg3; have HM := Lib.hid hM; have t0 := cell_of_row _ _ 0 _ _ _ u3; have t1 := cell_of_row _ _ 1 _ _ _ u3; have ft0 := frozen_of_row _ _ 0 _ _ u3; have ft1 := frozen_of_row _ _ 1 _ _ u3; simp at t0 t1; clear hM u3 hg3))
        go_roundw
        case rel => exact ⟨i + 1, HLT.out, by go_num, _, _, _, _, HM⟩
        case measure => simp [intOf]; omega
      by_cases k1 : fk = 1
      · have HA : Hid (∀ w', Below wr.heap.size wr w' → Calls Try.prog 22 #[.pointer (some ⟨g, 0, none⟩), .agg #[.int .i64 v1, .int .i64 v2], .int .i64 fi, .agg #[.int .i64 y1, .int .i64 y2]] w' fun ex w2 => (∃ (_a _b er : Int), ex = .returned (.int .i64 er)) ∧ WentH F1 g (setM m1 (v1, v2) fi (y1, y2)) w' w2) := Lib.hid fun w' hb => by
          obtain ⟨vr, mb, S, hh, rfl⟩ := HJ.out.1.jt.hep
          exact ((hh.below hb).setI HJ.out.1.jt.here v1 v2 HV.out.2.1 HV.out.2.2 fi y1 y2 HXX.out.2).mono fun ex w2 ⟨he, hw⟩ => ⟨⟨0, 0, _, he⟩, hw⟩
        have HR : Hid (∀ w2 F2, Jt w2 g F2 (fun k => k = w.heap.size ∨ k = s) (setM m1 (v1, v2) fi (y1, y2)) (.slice q0 n0 c0) L1 40 → Below w.heap.size w w2 → Calls Try.prog 23 #[.agg #[.slice q0 n0 c0, .int .i64 40], .agg #[.int .i64 v1, .int .i64 v2], .int .i64 fi, .agg #[.int .i64 y1, .int .i64 y2]] w2 fun ex w3 => ∃ v, (∃ (_a _b er : Int), ex = .returned (.tuple #[v, .int .i64 er])) ∧ RGoes w2 w3 (Fx F2 (fun k => k = w.heap.size ∨ k = s)) 40 (rSetL L1 (v1, v2) fi (y1, y2)) v) := Lib.hid fun w2 F2 hj hb => by
          obtain ⟨W, hr⟩ := hj.row
          have hl := hj.len
          exact (hr.set (by omega) hj.smx hj.flt 40 v1 v2 fi y1 y2).mono fun ex w3 ⟨v, he, hg⟩ => ⟨v, ⟨0, 0, _, he⟩, hg⟩
        have HGO : Hid (∀ w2, WentH F1 g (setM m1 (v1, v2) fi (y1, y2)) (wr.alloc (.cells #[.int .i64 fk, .int .i64 fi, .int .i64 v1, .int .i64 v2, .int .i64 y1, .int .i64 y2, .int .i64 kk, .slice fq fn fc, .slice fp fd fe] 63)) w2 → w2.heap[wr.heap.size]? = some (.cells #[.int .i64 fk, .int .i64 fi, .int .i64 v1, .int .i64 v2, .int .i64 y1, .int .i64 y2, .int .i64 kk, .slice fq fn fc, .slice fp fd fe] 63 (0, 0)) ∧ w2.heap[s]? = some (.cells #[.slice q0 n0 c0, .int .i64 40] 29 (0, 0)) ∧ ∃ F2, Jt w2 g F2 (fun k => k = w.heap.size ∨ k = s) (setM m1 (v1, v2) fi (y1, y2)) (.slice q0 n0 c0) L1 40 ∧ Below w.heap.size w w2 ∧
            ∀ w3 v, RGoes w2 w3 (Fx F2 (fun k => k = w.heap.size ∨ k = s)) 40 (rSetL L1 (v1, v2) fi (y1, y2)) v → ∃ q4 n4 c4, v = .agg #[.slice q4 n4 c4, .int .i64 40] ∧ w3.heap[s]? = some (.cells #[.slice q0 n0 c0, .int .i64 40] 29 (0, 0)) ∧ (MadeJ w ((w3.setCell ⟨s, 0, none⟩ (.slice q4 n4 c4)).setCell ⟨s, 1, none⟩ (.int .i64 40)) g s F2 (setM m1 (v1, v2) fi (y1, y2)) (.slice q4 n4 c4) (rSetL L1 (v1, v2) fi (y1, y2)) ∧ Ft (setM m1 (v1, v2) fi (y1, y2)).L)) := Lib.hid fun w2 hw => by
          obtain ⟨F2, hj2, hc2, -⟩ := HJA.out.mem HXF.out hw (set_here HJ.out.1.jt.here) (set_sm HJ.out.1.jt.sm)
          have hc := (Chp.of_below (F := F1) HB8.out).trans hc2
          refine ⟨(hc2.block _ (lt_of_block HX8.out) (fun e => by have := HJ.out.1.jt.hep.lt _ e; omega)).trans HX8.out, (hc.block s (Array.getElem?_eq_some_iff.1 HJ.out.1.b6).1 fun e => (HJ.out.1.high _ e).2 rfl).trans HJ.out.1.b6, F2, hj2, HBW.out w2 F2 hc, fun w3 v hg => ?_⟩
          obtain ⟨vl2, rfl, hj3, hb3⟩ := hj2.rowg hg (rset_sm HJ.out.1.jt.smx) (by rw [rset_len]; exact HJ.out.1.jt.len)
          obtain ⟨q4, n4, c4, rfl⟩ := hj3.form
          obtain ⟨u1, u2⟩ := HJ.out.1.fin hj3 (hc.trans (Chp.of_below hb3))
          exact ⟨q4, n4, c4, rfl, u1, u2, set_ft HJ.out.2 HXX.out⟩
        subst k1
        have z := HX8.out
        have b0 := cell_of_row _ _ 0 _ _ _ z
        have b1 := cell_of_row _ _ 1 _ _ _ z
        have b2 := cell_of_row _ _ 2 _ _ _ z
        have b3 := cell_of_row _ _ 3 _ _ _ z
        have b4 := cell_of_row _ _ 4 _ _ _ z
        have b5 := cell_of_row _ _ 5 _ _ _ z
        simp at b0 b1 b2 b3 b4 b5
        clear z HJ HJA HBW HXF x0 x1 x2 x3 x4 x5 x6 x7 x8
        go_wp2_with (first
          | (go_at_call 22; with_reducible refine (HA.out _ HB8.out).mono ?_; rintro ex w2 ⟨⟨a2, b2, er2, rfl⟩, hw2⟩; obtain ⟨u0, u1, F2, hj2, hb2, hg2⟩ := HGO.out w2 hw2; have HJ2 := Lib.hid hj2; have HB2 := Lib.hid hb2; have HG2 := Lib.hid hg2; have e0 := cell_of_row _ _ 0 _ _ _ u0; have e1 := cell_of_row _ _ 1 _ _ _ u0; have e2 := cell_of_row _ _ 2 _ _ _ u0; have e3 := cell_of_row _ _ 3 _ _ _ u0; have e4 := cell_of_row _ _ 4 _ _ _ u0; have e5 := cell_of_row _ _ 5 _ _ _ u0; simp at e0 e1 e2 e3 e4 e5; have s0 := cell_of_row _ _ 0 _ _ _ u1; have s1 := cell_of_row _ _ 1 _ _ _ u1; simp at s0 s1; clear hj2 hb2 hg2 u0 u1 hw2)
          | (go_at_call 23; with_reducible refine (HR.out _ _ HJ2.out HB2.out).mono ?_; rintro ex w3 ⟨v3, ⟨a3, b3, er3, rfl⟩, hg3⟩; obtain ⟨q4, n4, c4, rfl, u3, hM⟩ := HG2.out w3 v3 hg3; have HM := Lib.hid hM; have t0 := cell_of_row _ _ 0 _ _ _ u3; have t1 := cell_of_row _ _ 1 _ _ _ u3; have ft0 := frozen_of_row _ _ 0 _ _ u3; have ft1 := frozen_of_row _ _ 1 _ _ u3; simp at t0 t1; clear hM u3 hg3))
        go_roundw
        case rel => exact ⟨i + 1, HLT.out, by go_num, _, _, _, _, HM⟩
        case measure => simp [intOf]; omega
      by_cases k2 : fk = 2
      · have HA : Hid (∀ w', Below wr.heap.size wr w' → Calls Try.prog 24 #[.pointer (some ⟨g, 0, none⟩), .agg #[.int .i64 v1, .int .i64 v2]] w' fun ex w2 => (∃ (_a _b : Int) (er : Bool), ex = .returned (.bool er)) ∧ WentH F1 g (dropM m1 (v1, v2)) w' w2) := Lib.hid fun w' hb => by
          obtain ⟨vr, mb, S, hh, rfl⟩ := HJ.out.1.jt.hep
          exact ((hh.below hb).dropV v1 v2 HV.out.2.1 HV.out.2.2).mono fun ex w2 ⟨he, hw⟩ => ⟨⟨(0 : Int), (0 : Int), _, he⟩, hw⟩
        have HR : Hid (∀ w2 F2, Jt w2 g F2 (fun k => k = w.heap.size ∨ k = s) (dropM m1 (v1, v2)) (.slice q0 n0 c0) L1 40 → Below w.heap.size w w2 → Calls Try.prog 25 #[.agg #[.slice q0 n0 c0, .int .i64 40], .agg #[.int .i64 v1, .int .i64 v2]] w2 fun ex w3 => ∃ v, (∃ (_a _b : Int) (er : Bool), ex = .returned (.tuple #[v, .bool er])) ∧ RGoes w2 w3 (Fx F2 (fun k => k = w.heap.size ∨ k = s)) 40 (rDropL L1 (v1, v2)) v) := Lib.hid fun w2 F2 hj hb => by
          obtain ⟨W, hr⟩ := hj.row
          have hl := hj.len
          exact (hr.drop (by omega) hj.flt 40 v1 v2).mono fun ex w3 ⟨v, he, hg⟩ => ⟨v, ⟨(0 : Int), (0 : Int), _, he⟩, hg⟩
        have HGO : Hid (∀ w2, WentH F1 g (dropM m1 (v1, v2)) (wr.alloc (.cells #[.int .i64 fk, .int .i64 fi, .int .i64 v1, .int .i64 v2, .int .i64 y1, .int .i64 y2, .int .i64 kk, .slice fq fn fc, .slice fp fd fe] 63)) w2 → w2.heap[wr.heap.size]? = some (.cells #[.int .i64 fk, .int .i64 fi, .int .i64 v1, .int .i64 v2, .int .i64 y1, .int .i64 y2, .int .i64 kk, .slice fq fn fc, .slice fp fd fe] 63 (0, 0)) ∧ w2.heap[s]? = some (.cells #[.slice q0 n0 c0, .int .i64 40] 29 (0, 0)) ∧ ∃ F2, Jt w2 g F2 (fun k => k = w.heap.size ∨ k = s) (dropM m1 (v1, v2)) (.slice q0 n0 c0) L1 40 ∧ Below w.heap.size w w2 ∧
            ∀ w3 v, RGoes w2 w3 (Fx F2 (fun k => k = w.heap.size ∨ k = s)) 40 (rDropL L1 (v1, v2)) v → ∃ q4 n4 c4, v = .agg #[.slice q4 n4 c4, .int .i64 40] ∧ w3.heap[s]? = some (.cells #[.slice q0 n0 c0, .int .i64 40] 29 (0, 0)) ∧ (MadeJ w ((w3.setCell ⟨s, 0, none⟩ (.slice q4 n4 c4)).setCell ⟨s, 1, none⟩ (.int .i64 40)) g s F2 (dropM m1 (v1, v2)) (.slice q4 n4 c4) (rDropL L1 (v1, v2)) ∧ Ft (dropM m1 (v1, v2)).L)) := Lib.hid fun w2 hw => by
          obtain ⟨F2, hj2, hc2, -⟩ := HJA.out.mem HXF.out hw (drop_here HJ.out.1.jt.here) (drop_sm HJ.out.1.jt.sm)
          have hc := (Chp.of_below (F := F1) HB8.out).trans hc2
          refine ⟨(hc2.block _ (lt_of_block HX8.out) (fun e => by have := HJ.out.1.jt.hep.lt _ e; omega)).trans HX8.out, (hc.block s (Array.getElem?_eq_some_iff.1 HJ.out.1.b6).1 fun e => (HJ.out.1.high _ e).2 rfl).trans HJ.out.1.b6, F2, hj2, HBW.out w2 F2 hc, fun w3 v hg => ?_⟩
          obtain ⟨vl2, rfl, hj3, hb3⟩ := hj2.rowg hg (rdrop_sm HJ.out.1.jt.smx) (by rw [rdrop_len]; exact HJ.out.1.jt.len)
          obtain ⟨q4, n4, c4, rfl⟩ := hj3.form
          obtain ⟨u1, u2⟩ := HJ.out.1.fin hj3 (hc.trans (Chp.of_below hb3))
          exact ⟨q4, n4, c4, rfl, u1, u2, drop_ft HJ.out.2⟩
        subst k2
        have z := HX8.out
        have b0 := cell_of_row _ _ 0 _ _ _ z
        have b2 := cell_of_row _ _ 2 _ _ _ z
        have b3 := cell_of_row _ _ 3 _ _ _ z
        simp at b0 b2 b3
        clear z HJ HJA HBW HXF x0 x1 x2 x3 x4 x5 x6 x7 x8
        go_wp2_with (first
          | (go_at_call 24; with_reducible refine (HA.out _ HB8.out).mono ?_; rintro ex w2 ⟨⟨a2, b2, er2, rfl⟩, hw2⟩; obtain ⟨u0, u1, F2, hj2, hb2, hg2⟩ := HGO.out w2 hw2; have HJ2 := Lib.hid hj2; have HB2 := Lib.hid hb2; have HG2 := Lib.hid hg2; have e0 := cell_of_row _ _ 0 _ _ _ u0; have e2 := cell_of_row _ _ 2 _ _ _ u0; have e3 := cell_of_row _ _ 3 _ _ _ u0; simp at e0 e2 e3; have s0 := cell_of_row _ _ 0 _ _ _ u1; have s1 := cell_of_row _ _ 1 _ _ _ u1; simp at s0 s1; clear hj2 hb2 hg2 u0 u1 hw2)
          | (go_at_call 25; with_reducible refine (HR.out _ _ HJ2.out HB2.out).mono ?_; rintro ex w3 ⟨v3, ⟨a3, b3, er3, rfl⟩, hg3⟩; obtain ⟨q4, n4, c4, rfl, u3, hM⟩ := HG2.out w3 v3 hg3; have HM := Lib.hid hM; have t0 := cell_of_row _ _ 0 _ _ _ u3; have t1 := cell_of_row _ _ 1 _ _ _ u3; have ft0 := frozen_of_row _ _ 0 _ _ u3; have ft1 := frozen_of_row _ _ 1 _ _ u3; simp at t0 t1; clear hM u3 hg3))
        go_roundw
        case rel => exact ⟨i + 1, HLT.out, by go_num, _, _, _, _, HM⟩
        case measure => simp [intOf]; omega
      have f0 : (fk == 0) = false := by simp; exact k0
      have f1 : (fk == 1) = false := by simp; exact k1
      have f2 : (fk == 2) = false := by simp; exact k2
      have z := HX8.out
      have b0 := cell_of_row _ _ 0 _ _ _ z
      simp at b0
      have HM : Hid (MadeJ w (wr.alloc (.cells #[.int .i64 fk, .int .i64 fi, .int .i64 v1, .int .i64 v2, .int .i64 y1, .int .i64 y2, .int .i64 kk, .slice fq fn fc, .slice fp fd fe] 63)) g s F1 m1 (.slice q0 n0 c0) L1 ∧ Ft m1.L) := Lib.hid ⟨HJ.out.1.below' HB8.out, HJ.out.2⟩
      clear z HJ HJA HBW HXF x0 x1 x2 x3 x4 x5 x6 x7 x8 k0 k1 k2
      go_wp2_with fail
      go_roundw
      case rel => exact ⟨i + 1, HLT.out, by go_num, _, _, _, _, HM⟩
      case measure => simp [intOf]; omega
    · obtain rfl : i = n := by omega
      have h6 := HJ.out.1.b6
      have h3 := HJ.out.1.b3
      have y0 := cell_of_row _ _ 0 _ _ _ h6
      have y1 := cell_of_row _ _ 1 _ _ _ h6
      have f3 := frozen_of_row _ _ 0 _ _ h3
      have f4 := frozen_of_row _ _ 1 _ _ h3
      have z0 := cell_of_row _ _ 0 _ _ _ h3
      have z1 := cell_of_row _ _ 1 _ _ _ h3
      simp at y0 y1 z0 z1
      have hF := two_row wr w.heap.size _ _ _ (.slice q0 n0 c0) (.int .i64 40) h3
      have HFIN : Hid (∀ V : World, V.os = wr.os → V.tape = wr.tape → V.output = wr.output → V.heap.size = wr.heap.size → (∀ k, k ≠ w.heap.size → V.heap[k]? = wr.heap[k]?) → Hep V g F1 m1 ∧ Here m1.L ∧ Sm m1.L ∧ Ft m1.L ∧ Below w.heap.size w V ∧ (∀ k, F1 k → w.heap.size ≤ k)) := Lib.hid fun V e1 e2 e3 e4 e5 => by
        have hh := HJ.out.1.high
        refine ⟨HJ.out.1.jt.hep.keep fun k hk => e5 k (by have := (hh k hk).1; omega), HJ.out.1.jt.here, HJ.out.1.jt.sm, HJ.out.2, HJ.out.1.below.trans ⟨e1, e2, e3, by rw [e4]; exact Nat.le_refl _, fun k hk => e5 k (by omega)⟩, fun k hk => Nat.le_of_lt (hh k hk).1⟩
      clear h3 h6 HJ HO HL HN
      go_wp2_with fail
      go_region
      have hF' : (World.drew ((wr.setCell ⟨w.heap.size, 0, none⟩ (.slice q0 n0 c0)).setCell ⟨w.heap.size, 1, none⟩ (.int .i64 40))).heap[w.heap.size]? = _ := hF
      have HEND := Lib.hid (HFIN.out (World.drew ((wr.setCell ⟨w.heap.size, 0, none⟩ (.slice q0 n0 c0)).setCell ⟨w.heap.size, 1, none⟩ (.int .i64 40))) rfl rfl rfl (by simp) (fun k hk => (heap_setCell_other _ _ _ _ hk).trans (heap_setCell_other _ _ _ _ hk)))
      clear HFIN hF y0 y1 z0 z1 f3 f4
      generalize World.drew ((wr.setCell ⟨w.heap.size, 0, none⟩ (.slice q0 n0 c0)).setCell ⟨w.heap.size, 1, none⟩ (.int .i64 40)) = V at *
      have v0 := cell_of_row _ _ 0 _ _ _ hF'
      have v1 := cell_of_row _ _ 1 _ _ _ hF'
      simp at v0 v1
      go_wp2_with fail
      exact bodyPost_ret (v := .tuple #[.pointer (some ⟨g, 0, none⟩), .agg #[.slice q0 n0 c0, .int .i64 40]]) (by simp [results, Try.results7, go_sem, v0, v1]) rfl ⟨g, F1, m1, _, rfl, ⟨_, _, _, rfl⟩, HEND.out⟩
end Go.Proofs.Ytekmboolfjicbaa
