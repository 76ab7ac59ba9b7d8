/- What an object refers to is come to. -/
import Derived.Test.YtekmboolfjicbaaGMem
set_option maxRecDepth 20000
set_option linter.unusedSimpArgs false
set_option linter.unusedVariables false
namespace Go.Proofs.Ytekmboolfjicbaa
open Go.RowKit

theorem comeA_len (L : Pls) (vs T : List (Int × Int)) : (comeA L T vs).length ≤ T.length + vs.length := by
  unfold comeA
  induction vs generalizing T with
  | nil => simp
  | cons v vs ih =>
    rw [List.foldl_cons, List.length_cons]
    have := ih (comeT L T v)
    have := comeT_len L T v
    omega
theorem GraR.trans {w w' w2 : World} {g : Nat} {vt mv vf vt' mv' vf' : Value} {T : List (Int × Int)} (hc : Chp (footG g vt mv vf) (footG g vt' mv' vf') w w') (hm : mv = .map none ∨ mv' = mv) (h : GraR w' w2 g vt' mv' vf' T) : GraR w w2 g vt mv vf T := by
  obtain ⟨a, b, c, d, h1, h2, h3⟩ := h
  exact ⟨a, b, c, d, h1, hc.trans h2, hm.elim .inl fun e => h3.elim (fun e2 => .inl (by rw [← e, e2])) fun e2 => .inr (e2.trans e)⟩
/-- The graph and the memory, amid a walk; w0: where it began. -/
structure GJ (w0 wr : World) (gh : Nat) (F : Nat → Prop) (m : Hm) (g : Nat) (vt mv vf : Value) (T' : List (Int × Int)) : Prop where
  hep : Hep wr gh F m
  gra : ∃ vt' mv' vf' fs', Gra wr g vt' mv' vf' T' fs' ∧ Chp (footG g vt mv vf) (footG g vt' mv' vf') w0 wr ∧ (∀ k, F k → ¬ footG g vt' mv' vf' k) ∧ (mv = .map none ∨ mv' = mv)
section
variable {w0 wr w2 : World} {gh g : Nat} {F : Nat → Prop} {m : Hm} {vt mv vf : Value} {T T2 : List (Int × Int)}
theorem GJ.start {fs : List Fct} (h : Hep w0 gh F m) (hg : Gra w0 g vt mv vf T fs) (hsep : ∀ k, F k → ¬ footG g vt mv vf k) : GJ w0 w0 gh F m g vt mv vf T := ⟨h, vt, mv, vf, fs, hg, Chp.refl _ _, hsep, .inr rfl⟩
theorem GJ.below (h : GJ w0 wr gh F m g vt mv vf T) (hb : Below wr.heap.size wr w2) : GJ w0 w2 gh F m g vt mv vf T := by
  obtain ⟨hh, a, b, c, d, h1, h2, h3, h4⟩ := h
  exact ⟨hh.below hb, a, b, c, d, h1.below hb, h2.trans (Chp.of_below hb), h3, h4⟩
theorem GJ.grar (h : GJ w0 wr gh F m g vt mv vf T) : GraR w0 wr g vt mv vf T := by
  obtain ⟨hh, a, b, c, d, h1, h2, h3, h4⟩ := h
  exact ⟨a, b, c, d, h1, h2, h4⟩
/-- From further back. -/
theorem GJ.pre {w : World} (h : GJ w0 wr gh F m g vt mv vf T) (hb : Below w.heap.size w w0) : GJ w wr gh F m g vt mv vf T := by
  obtain ⟨hh, a, b, c, d, h1, h2, h3, h4⟩ := h
  exact ⟨hh, a, b, c, d, h1, (Chp.of_below hb).trans h2, h3, h4⟩
/-- What lay ahead and is no graph's lies as it lay. -/
theorem GJ.block (h : GJ w0 wr gh F m g vt mv vf T) {b : Nat} (hb : b < w0.heap.size) (hn : ¬ footG g vt mv vf b) : wr.heap[b]? = w0.heap[b]? := by
  obtain ⟨hh, a, b, c, d, h1, h2, h3, h4⟩ := h
  exact h2.block _ hb hn
theorem GJ.size (h : GJ w0 wr gh F m g vt mv vf T) : w0.heap.size ≤ wr.heap.size := by
  obtain ⟨hh, a, b, c, d, h1, h2, h3, h4⟩ := h
  exact h2.size
/-- A call that changes the graph. -/
theorem GJ.step {a b c : Value} {fs : List Fct} (h : Hep wr gh F m) (hg : Gra wr g a b c T fs) (h2 : Chp (footG g vt mv vf) (footG g a b c) w0 wr) (h3 : ∀ k, F k → ¬ footG g a b c k) (h4 : mv = .map none ∨ b = mv) (hr : GraR wr w2 g a b c T2) : GJ w0 w2 gh F m g vt mv vf T2 := by
  obtain ⟨a', b', c', d', g1, g2, g3⟩ := hr
  exact ⟨h.keep fun k hk => g2.block k (h.lt k hk) (h3 k hk), a', b', c', d', g1, h2.trans g2, fun k hk e => (g2.fresh k e).elim (h3 k hk) fun e2 => by have := h.lt k hk; omega, h4.elim .inl fun e => g3.elim (fun e2 => .inl (by rw [← e, e2])) fun e2 => .inr (e2.trans e)⟩
/-- .. come to a value. -/
theorem GJ.come (h : GJ w0 wr gh F m g vt mv vf T) (hh : Here m.L) (hT : T.length ≤ 90000) (a b : Int) (ha : I64 a ∧ I64 b) (p : Int) :
    Calls Try.prog 47 #[.pointer (some ⟨g, 0, none⟩), .pointer (some ⟨gh, 0, none⟩), .agg #[.int .i64 a, .int .i64 b], .int .i64 p] wr fun e w' => e = .returned (.tuple #[]) ∧ GJ w0 w' gh F m g vt mv vf (comeT m.L T (a, b)) := by
  obtain ⟨h1, x, y, z, fs, hg, hc, hs, h4⟩ := h
  refine (come_any h1 hh hg hs hT a b ha p).mono ?_
  rintro e w' ⟨rfl, hr⟩
  exact ⟨rfl, GJ.step h1 hg hc hs h4 hr⟩
end
set_option maxHeartbeats 1600000 in
theorem follow_any {w : World} {gh : Nat} {F : Nat → Prop} {m : Hm} (h : Hep w gh F m) (hh : Here m.L) {g : Nat} {vt mv vf : Value} {T : List (Int × Int)} {fs : List Fct} (hg : Gra w g vt mv vf T fs) (hsep : ∀ k, F k → ¬ footG g vt mv vf k)
    (a b : Int) (ha : I64 a ∧ I64 b) (hv : hasP m.L (a, b) = true) (hfit : FitV (obAt m.L (a, b)).vs) (hlen : (obAt m.L (a, b)).vs.length ≤ 300) (p : Nat) (hp : p < T.length) (hT : T.length ≤ 16384) :
    Calls Try.prog 49 #[.pointer (some ⟨g, 0, none⟩), .pointer (some ⟨gh, 0, none⟩), .agg #[.int .i64 a, .int .i64 b], .int .i64 (p : Int)] w fun e w' => e = .returned (.tuple #[]) ∧ GJ w w' gh F m g vt mv vf (comeA m.L T (obAt m.L (a, b)).vs) := by
  have hba := alloc_below w (.cells #[.int .i64 a, .int .i64 b] 36)
  have hx := heap_alloc_new w (.cells #[.int .i64 a, .int .i64 b] 36)
  have hnb : ¬ footG g vt mv vf w.heap.size := fun e => by have := hg.lt _ e; omega
  generalize hwa : w.alloc (.cells #[.int .i64 a, .int .i64 b] 36) = wa at *
  have hga := hg.below hba
  have HJ0 : Hid (GJ wa wa gh F m g vt mv vf (comeA m.L T ((obAt m.L (a, b)).vs.take 0))) := Lib.hid (GJ.start (h.below hba) hga hsep)
  have HPRE : Hid (∀ wr, GJ wa wr gh F m g vt mv vf (comeA m.L T (obAt m.L (a, b)).vs) → GJ w wr gh F m g vt mv vf (comeA m.L T (obAt m.L (a, b)).vs)) := Lib.hid fun wr hj => hj.pre hba
  have HSZ : Hid (∀ w1, Hep w1 gh F m → Calls Try.prog 64 #[.pointer (some ⟨gh, 0, none⟩), .agg #[.int .i64 a, .int .i64 b]] w1 fun e w' => e = .returned (.tuple #[.int .i64 ((obAt m.L (a, b)).vs.length : Int), .int .i64 (hasE m.L (a, b))]) ∧ Below w1.heap.size w1 w') := Lib.hid fun w1 ⟨vr, mb, S, hP, _⟩ => hP.size hh a b ha.2.1 ha.2.2
  have HAT : Hid (∀ w1, Hep w1 gh F m → ∀ k, k < (obAt m.L (a, b)).vs.length → Calls Try.prog 65 #[.pointer (some ⟨gh, 0, none⟩), .agg #[.int .i64 a, .int .i64 b], .int .i64 (k : Int)] w1 fun e w' => e = .returned (.tuple #[.agg #[.int .i64 ((obAt m.L (a, b)).vs.getD k (0, 0)).1, .int .i64 ((obAt m.L (a, b)).vs.getD k (0, 0)).2], .int .i64 0]) ∧ Below w1.heap.size w1 w') := Lib.hid fun w1 ⟨vr, mb, S, hP, _⟩ k hk => by
    have h1 := hP.atI hh a b ha.2.1 ha.2.2 (k : Int)
    have e0 : atE m.L (a, b) (k : Int) = 0 := by
      unfold atE
      rw [if_neg (by rw [hv]; decide), if_neg (by omega)]
    have e1 : atV m.L (a, b) (k : Int) = (obAt m.L (a, b)).vs.getD k (0, 0) := by
      unfold atV
      rw [if_pos e0, Int.toNat_natCast]
    rw [e0, e1] at h1
    exact h1
  have HCM : Hid (∀ w1 k, k < (obAt m.L (a, b)).vs.length → GJ wa w1 gh F m g vt mv vf (comeA m.L T ((obAt m.L (a, b)).vs.take k)) → Calls Try.prog 47 #[.pointer (some ⟨g, 0, none⟩), .pointer (some ⟨gh, 0, none⟩), .agg #[.int .i64 ((obAt m.L (a, b)).vs.getD k (0, 0)).1, .int .i64 ((obAt m.L (a, b)).vs.getD k (0, 0)).2], .int .i64 (p : Int)] w1 fun e w' => e = .returned (.tuple #[]) ∧ GJ wa w' gh F m g vt mv vf (comeA m.L T ((obAt m.L (a, b)).vs.take (k + 1)))) := Lib.hid fun w1 k hk hj => by
    have hl := comeA_len m.L ((obAt m.L (a, b)).vs.take k) T
    have hl2 : ((obAt m.L (a, b)).vs.take k).length ≤ k := by simp; omega
    rw [comeA_take _ _ _ _ hk]
    exact hj.come hh (by omega) _ _ (hfit.getD k) p
  have HTK : Hid ((obAt m.L (a, b)).vs.take (obAt m.L (a, b)).vs.length = (obAt m.L (a, b)).vs) := Lib.hid (List.take_length ..)
  have HBX : Hid (∀ w1 T2, GJ wa w1 gh F m g vt mv vf T2 → w1.heap[w.heap.size]? = some (.cells #[.int .i64 a, .int .i64 b] 36 (0, 0))) := Lib.hid fun w1 T2 hj => (hj.block (lt_of_block hx) hnb).trans hx
  have HHE : Hid (hasE m.L (a, b) = 0) := Lib.hid (hasE_some hv)
  have c2 := hga.c2
  obtain ⟨q, cp, e⟩ := own_form hga.f
  subst e
  have hpl : p < fs.length := by rw [hg.len]; exact hp
  obtain ⟨x, hxx⟩ : ∃ x, fs[p]? = some x := ⟨fs[p], List.getElem?_eq_getElem hpl⟩
  have hxa := hg.aw x (List.mem_of_getElem? hxx)
  obtain ⟨bf, d, e⟩ := own_some hga.f (by omega)
  cases e
  have c3 : wa.cell? ⟨bf, p * 3 + 1, none⟩ = some (.bool false) := by
    have h1 := hga.f.cellAt (p * 3 + 1) (by omega)
    rw [flat3_get fs p x hxx, hxa] at h1
    exact h1
  have hpi : (p : Int) < (fs.length : Int) := by omega
  have HX := Lib.hid (HBX.out wa _ HJ0.out)
  have HH0 := Lib.hid (h.below hba)
  clear hga hg h hxa hxx hx hnb hfit hpl hp hv
  generalize (obAt m.L (a, b)).vs = vs at *
  obtain ⟨NL, hNL⟩ : ∃ NL, vs.length = NL := ⟨_, rfl⟩
  rw [hNL] at HSZ HAT HCM HTK hlen
  have HNL := Lib.hid hNL
  clear hNL
  go_enter Try.func49, Try.ntmps49
  go_upto_region 1 with fail
  go_upto_region 2 with fail
  have x0 := cell_of_row _ _ 0 _ _ _ HX.out
  have x1 := cell_of_row _ _ 1 _ _ _ HX.out
  simp at x0 x1
  go_upto_region 3 with (go_at_call 64; with_reducible refine (HSZ.out _ HH0.out).mono ?_; rintro e w1 ⟨rfl, hb1⟩)
  rw [HHE.out]
  have HJ1 := Lib.hid (HJ0.out.below hb1)
  clear HJ0 hb1 x0 x1 c2 c3 HH0 hwa HSZ
  go_wp2_with fail
  go_loopw [28] (fun iv wr => ∃ k : Nat, k ≤ NL ∧ iv = .int .i64 (k : Int) ∧ Hid (GJ wa wr gh F m g vt mv (.slice (some ⟨bf, 0, none⟩) fs.length cp) (comeA m.L T (vs.take k)))) (fun iv _ => NL - (intOf iv).toNat)
  case atStart => exact ⟨0, by omega, by go_num, HJ1⟩
  case round =>
    obtain ⟨k, hk, rfl, HJ⟩ := hrel
    clear HJ1
    by_cases hlt : k < NL
    · have hki : (k : Int) < (NL : Int) := by omega
      have hk2 : (k : Int) ≤ 300 := by omega
      have hxr := HBX.out wr _ HJ.out
      have x0 := cell_of_row _ _ 0 _ _ _ hxr
      have x1 := cell_of_row _ _ 1 _ _ _ hxr
      simp at x0 x1
      have HA := Lib.hid (HAT.out wr HJ.out.hep k hlt)
      have HC := Lib.hid (fun w1 hj => HCM.out w1 k hlt hj)
      clear hxr HAT HCM HBX
      generalize (vs.getD k (0, 0)).1 = y at *
      generalize (vs.getD k (0, 0)).2 = z at *
      go_upto_region 7 with (go_at_call 65; with_reducible refine HA.out.mono ?_; rintro e w2 ⟨rfl, hb2⟩)
      have HJ2 := Lib.hid ((HJ.out.below hb2).below (alloc_below w2 (.cells #[.int .i64 y, .int .i64 z] 36)))
      have hx2 := heap_alloc_new w2 (.cells #[.int .i64 y, .int .i64 z] 36)
      clear hb2 x0 x1
      generalize w2.alloc (.cells #[.int .i64 y, .int .i64 z] 36) = w3 at *
      have x0 := cell_of_row _ _ 0 _ _ _ hx2
      have x1 := cell_of_row _ _ 1 _ _ _ hx2
      simp at x0 x1
      have HC3 := Lib.hid (HC.out w3 HJ2.out)
      clear HC hx2
      go_wp2_with (go_at_call 47; with_reducible refine HC3.out.mono ?_; rintro e w4 ⟨rfl, hj4⟩; have HJ4 := Lib.hid hj4; clear hj4)
      go_roundw
      case rel => exact ⟨k + 1, by omega, by go_num, HJ4⟩
      case measure => simp [intOf]; omega
    · obtain rfl : k = NL := by omega
      rw [HTK.out] at HJ
      have HF := Lib.hid (HPRE.out wr HJ.out)
      go_wp2_with fail
      go_end0
      exact ⟨rfl, HF.out⟩
end Go.Proofs.Ytekmboolfjicbaa
