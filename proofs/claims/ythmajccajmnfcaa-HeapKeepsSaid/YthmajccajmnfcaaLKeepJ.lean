/- The object that was added, in memory, and each call. -/
import Derived.Test.YthmajccajmnfcaaLLight
set_option maxRecDepth 20000
set_option linter.unusedSimpArgs false
namespace Go.Proofs.Ythmajccajmnfcaa
open Go.RowKit

structure KeepJ (w0 wr : World) (g s : Nat) (F : Nat → Prop) (m : Hm) (q : Option Addr) (n c : Nat) (r : Option Addr) (d e : Nat) (o : Ob) (p : Nat) : Prop where
  hep : Hep wr g F m
  here : Here m.L
  sm : Sm m.L
  kp : Kp m.L o p
  below : Below w0.heap.size w0 wr
  high : ∀ k, F k → w0.heap.size < k ∧ k ≠ s
  b5 : wr.heap[w0.heap.size]? = some (.cells #[.int .i64 o.k, .slice q n c, .slice r d e] 27 (0, 0))
  b9 : wr.heap[s]? = some (.cells #[.int .i64 8, .int .i64 (p : Int)] 38 (0, 0))
  hs : w0.heap.size < s
section
variable {w0 wr w1 w2 : World} {g s : Nat} {F : Nat → Prop} {m m' : Hm} {q r : Option Addr} {n c d e : Nat} {o : Ob} {p : Nat}
theorem KeepJ.below' (h : KeepJ w0 wr g s F m q n c r d e o p) (hb : Below wr.heap.size wr w1) : KeepJ w0 w1 g s F m q n c r d e o p :=
  ⟨h.hep.below hb, h.here, h.sm, h.kp, h.below.trans (hb.mono h.below.size), h.high, (hb.block _ (Array.getElem?_eq_some_iff.1 h.b5).1).trans h.b5, (hb.block _ (Array.getElem?_eq_some_iff.1 h.b9).1).trans h.b9, h.hs⟩
/-- What a call leaves. -/
def KeepR (w0 w w' : World) (g s : Nat) (F : Nat → Prop) (q : Option Addr) (n c : Nat) (r : Option Addr) (d e : Nat) (o : Ob) (p : Nat) : Prop := ∃ F' m', KeepJ w0 w' g s F' m' q n c r d e o p ∧ Chp F F' w w'
theorem KeepJ.went (h : KeepJ w0 wr g s F m q n c r d e o p) (hw : WentH F g m' wr w2) (h1 : Here m'.L) (h2 : Sm m'.L) (h3 : Kp m'.L o p) : KeepR w0 wr w2 g s F q n c r d e o p := by
  obtain ⟨F', hh, hc⟩ := hw
  have l5 := (Array.getElem?_eq_some_iff.1 h.b5).1
  have l9 := (Array.getElem?_eq_some_iff.1 h.b9).1
  have hs := h.hs
  have f5 : ¬ F w0.heap.size := fun e => by have := (h.high _ e).1; omega
  have f9 : ¬ F s := fun e => (h.high _ e).2 rfl
  have hH := hc.high h.below.size fun k hk => Nat.le_of_lt (h.high k hk).1
  refine ⟨F', m', ⟨hh, h1, h2, h3, hc.below h.below h.below.size fun k hk => Nat.le_of_lt (h.high k hk).1, fun k hk => ?_, (hc.block _ l5 f5).trans h.b5, (hc.block _ l9 f9).trans h.b9, hs⟩, hc⟩
  have := hH k hk
  exact ⟨Nat.lt_of_le_of_ne this fun e => hc.out l5 f5 (by rw [e]; exact hk), fun e => hc.out l9 f9 (by rw [← e]; exact hk)⟩
theorem KeepJ.plt (h : KeepJ w0 wr g s F m q n c r d e o p) : (p : Int) ≤ 16384 := by
  have := h.kp.lt
  have := h.hep.ok.len
  have := h.hep.ok.l1
  omega
theorem KeepJ.add (h : KeepJ w0 wr g s F m q n c r d e o p) (o2 : Ob) (q2 r2 : Option Addr) (n2 c2 d2 e2 : Nat) (ho : ObV wr q2 n2 r2 d2 o2) (hn : n2 ≤ 300) (hd : d2 ≤ 5000) :
    Calls Try.prog 8 #[.pointer (some ⟨g, 0, none⟩), .agg #[.int .i64 o2.k, .slice q2 n2 c2, .slice r2 d2 e2]] wr fun ex w' => ∃ v1 v2 er, ex = .returned (.tuple #[.agg #[.int .i64 v1, .int .i64 v2], .int .i64 er]) ∧ (er = 0 → (v1, v2) ≠ (8, (p : Int))) ∧ KeepR w0 wr w' g s F q n c r d e o p := by
  obtain ⟨vr, mb, S, hh, rfl⟩ := h.hep
  refine (hh.add o2 q2 r2 n2 c2 d2 e2 ho (by omega) (by omega)).mono ?_
  rintro ex w' ⟨rfl, hw⟩
  exact ⟨_, _, _, rfl, fun h0 => h.kp.other h0, h.went hw (add_here h.here) (add_sm h.sm) h.kp.add⟩
theorem KeepJ.setI (h : KeepJ w0 wr g s F m q n c r d e o p) (v1 v2 i x1 x2 : Int) (hv : I64 v2) (hx : I64 x2) (hne : (v1, v2) ≠ (8, (p : Int))) :
    Calls Try.prog 10 #[.pointer (some ⟨g, 0, none⟩), .agg #[.int .i64 v1, .int .i64 v2], .int .i64 i, .agg #[.int .i64 x1, .int .i64 x2]] wr fun ex w' => (∃ er, ex = .returned (.int .i64 er)) ∧ KeepR w0 wr w' g s F q n c r d e o p := by
  obtain ⟨vr, mb, S, hh, rfl⟩ := h.hep
  refine (hh.setI h.here v1 v2 hv.1 hv.2 i x1 x2 hx).mono ?_
  rintro ex w' ⟨rfl, hw⟩
  exact ⟨⟨_, rfl⟩, h.went hw (set_here h.here) (set_sm h.sm) (h.kp.set hne)⟩
theorem KeepJ.setB (h : KeepJ w0 wr g s F m q n c r d e o p) (v1 v2 i : Int) (b : Nat) (hv : I64 v2) (hb : b < 256) (hne : (v1, v2) ≠ (8, (p : Int))) :
    Calls Try.prog 11 #[.pointer (some ⟨g, 0, none⟩), .agg #[.int .i64 v1, .int .i64 v2], .int .i64 i, .int .u8 (b : Int)] wr fun ex w' => (∃ er, ex = .returned (.int .i64 er)) ∧ KeepR w0 wr w' g s F q n c r d e o p := by
  obtain ⟨vr, mb, S, hh, rfl⟩ := h.hep
  refine (hh.setB h.here v1 v2 hv.1 hv.2 i b hb).mono ?_
  rintro ex w' ⟨rfl, hw⟩
  exact ⟨⟨_, rfl⟩, h.went hw (setB_here h.here) (setB_sm h.sm) (h.kp.setB hne)⟩
theorem KeepJ.drop (h : KeepJ w0 wr g s F m q n c r d e o p) (v1 v2 : Int) (hv : I64 v2) (hne : (v1, v2) ≠ (8, (p : Int))) :
    Calls Try.prog 12 #[.pointer (some ⟨g, 0, none⟩), .agg #[.int .i64 v1, .int .i64 v2]] wr fun ex w' => (∃ b, ex = .returned (.bool b)) ∧ KeepR w0 wr w' g s F q n c r d e o p := by
  obtain ⟨vr, mb, S, hh, rfl⟩ := h.hep
  refine (hh.dropV v1 v2 hv.1 hv.2).mono ?_
  rintro ex w' ⟨rfl, hw⟩
  exact ⟨⟨_, rfl⟩, h.went hw (drop_here h.here) (drop_sm h.sm) (h.kp.drop hne)⟩
theorem KeepJ.obj (h : KeepJ w0 wr g s F m q n c r d e o p) :
    Calls Try.prog 13 #[.pointer (some ⟨g, 0, none⟩), .agg #[.int .i64 8, .int .i64 (p : Int)]] wr fun ex w' => ∃ q2 n2 c2 r2 d2 e2, ex = .returned (.tuple #[.agg #[.int .i64 o.k, .slice q2 n2 c2, .slice r2 d2 e2], .int .i64 0]) ∧ (ObW w' q2 n2 r2 d2 o ∧ n2 ≤ 256) ∧ Below wr.heap.size wr w' := by
  obtain ⟨vr, mb, S, hh, rfl⟩ := h.hep
  have hp := h.plt
  have hl : o.vs.length ≤ 256 := by
    obtain ⟨cl, hc, e2⟩ := h.kp
    have := (h.sm _ _ hc).1
    rw [e2] at this; exact this
  have hd : ∀ x ∈ o.bs, x < 256 := by
    obtain ⟨cl, hc, e2⟩ := h.kp
    obtain ⟨x, _, hx⟩ := hh.at_ _ _ hc
    rw [← e2]; exact hx.dig
  refine (hh.obj h.here h.sm 8 p (by omega) (by omega)).mono ?_
  rintro ex w' ⟨vv, vb, rfl, hc⟩
  rw [h.kp.ob] at hc ⊢
  rw [hasE_some h.kp.has]
  obtain ⟨q2, c2, rfl⟩ := own_form hc.vs
  obtain ⟨r2, e2, rfl⟩ := own_form hc.bs
  exact ⟨q2, _, c2, r2, _, e2, rfl, ⟨⟨Vls.own hc.vs, Bys.own hc.bs hd⟩, hl⟩, hc.below⟩
/-- The object is gone. -/
structure GoneJ (w0 wr : World) (g s : Nat) (F : Nat → Prop) (m : Hm) (p : Nat) : Prop where
  hep : Hep wr g F m
  no : hasP m.L (8, (p : Int)) = false
  below : Below w0.heap.size w0 wr
  high : ∀ k, F k → w0.heap.size ≤ k ∧ k ≠ s
  b9 : wr.heap[s]? = some (.cells #[.int .i64 8, .int .i64 (p : Int)] 38 (0, 0))
  plt : (p : Int) ≤ 16384
theorem GoneJ.below' (h : GoneJ w0 wr g s F m p) (hb : Below wr.heap.size wr w1) : GoneJ w0 w1 g s F m p :=
  ⟨h.hep.below hb, h.no, h.below.trans (hb.mono h.below.size), h.high, (hb.block _ (Array.getElem?_eq_some_iff.1 h.b9).1).trans h.b9, h.plt⟩
theorem KeepJ.dropIt (h : KeepJ w0 wr g s F m q n c r d e o p) :
    Calls Try.prog 12 #[.pointer (some ⟨g, 0, none⟩), .agg #[.int .i64 8, .int .i64 (p : Int)]] wr fun ex w' => ex = .returned (.bool true) ∧ ∃ F' m', GoneJ w0 w' g s F' m' p := by
  obtain ⟨vr, mb, S, hh, rfl⟩ := h.hep
  have hp := h.plt
  refine (hh.dropV 8 p (by omega) (by omega)).mono ?_
  rintro ex w' ⟨rfl, F', hh2, hc⟩
  have l9 := (Array.getElem?_eq_some_iff.1 h.b9).1
  have f9 : ¬ footH g vr mb S s := fun e => (h.high _ e).2 rfl
  have hH := hc.high h.below.size fun k hk => Nat.le_of_lt (h.high k hk).1
  exact ⟨by rw [h.kp.has], F', _, ⟨hh2, h.kp.gone, hc.below h.below h.below.size fun k hk => Nat.le_of_lt (h.high k hk).1, fun k hk => ⟨hH k hk, fun e => hc.out l9 f9 (by rw [← e]; exact hk)⟩, (hc.block _ l9 f9).trans h.b9, hp⟩⟩
theorem GoneJ.has (h : GoneJ w0 wr g s F m p) :
    Calls Try.prog 15 #[.pointer (some ⟨g, 0, none⟩), .agg #[.int .i64 8, .int .i64 (p : Int)]] wr fun ex w' => ex = .returned (.bool false) ∧ GoneJ w0 w' g s F m p := by
  have hp := h.plt
  have h0 := h
  obtain ⟨vr, mb, S, hh, rfl⟩ := h.hep
  refine (hh.has 8 p (by omega) (by omega)).mono ?_
  rintro ex w' ⟨rfl, hb⟩
  exact ⟨by rw [h0.no], h0.below' hb⟩
theorem GoneJ.drop (h : GoneJ w0 wr g s F m p) :
    Calls Try.prog 12 #[.pointer (some ⟨g, 0, none⟩), .agg #[.int .i64 8, .int .i64 (p : Int)]] wr fun ex w' => ex = .returned (.bool false) ∧ Below w0.heap.size w0 w' := by
  have hp := h.plt
  obtain ⟨vr, mb, S, hh, rfl⟩ := h.hep
  refine (hh.dropV 8 p (by omega) (by omega)).mono ?_
  rintro ex w' ⟨rfl, F', hh2, hc⟩
  exact ⟨by rw [h.no], hc.below h.below h.below.size fun k hk => (h.high k hk).1⟩
/-- It is added. -/
theorem add_first {w0 wr : World} {g : Nat} {F : Nat → Prop} {m : Hm} (hh : Hep wr g F m) (h1 : Here m.L) (h2 : Sm m.L) (hb : Below w0.heap.size w0 wr) (hF : ∀ k, F k → w0.heap.size < k) (hz : w0.heap.size < wr.heap.size) (o : Ob) (q r : Option Addr) (n c d e : Nat) (ho : ObV wr q n r d o) (hn : n ≤ 300) (hd : d ≤ 5000)
    (h5 : wr.heap[w0.heap.size]? = some (.cells #[.int .i64 o.k, .slice q n c, .slice r d e] 27 (0, 0))) :
    Calls Try.prog 8 #[.pointer (some ⟨g, 0, none⟩), .agg #[.int .i64 o.k, .slice q n c, .slice r d e]] wr fun ex w' => ∃ v1 v2 er, ex = .returned (.tuple #[.agg #[.int .i64 v1, .int .i64 v2], .int .i64 er]) ∧ Below w0.heap.size w0 w' ∧ ((v1 = 0 ∧ v2 = 0 ∧ (er = 1 ∨ er = 8)) ∨ (er = 0 ∧ v1 = 8 ∧ ∃ p : Nat, v2 = (p : Int) ∧ ∃ F' m', KeepJ w0 (w'.alloc (.cells #[.int .i64 8, .int .i64 (p : Int)] 38)) g w'.heap.size F' m' q n c r d e o p ∧ ∀ w2, Below (w'.alloc (.cells #[.int .i64 8, .int .i64 (p : Int)] 38)).heap.size (w'.alloc (.cells #[.int .i64 8, .int .i64 (p : Int)] 38)) w2 → Calls Try.prog 9 #[.pointer (some ⟨g, 0, none⟩), .agg #[.int .i64 8, .int .i64 (p : Int)]] w2 fun e w' => e = .returned (.bool true) ∧ Below w2.heap.size w2 w')) := by
  obtain ⟨vr, mb, S, hh, rfl⟩ := hh
  refine (hh.add o q r n c d e ho (by omega) (by omega)).mono ?_
  rintro ex w' ⟨rfl, F', hh2, hc⟩
  have hbw : Below w0.heap.size w0 w' := hc.below hb hb.size fun k hk => Nat.le_of_lt (hF k hk)
  refine ⟨_, _, _, rfl, hbw, ?_⟩
  rcases addE_cases m o with h0 | ⟨hv, hE⟩
  · refine .inr ⟨h0, ?_⟩
    obtain ⟨p, hv, hk, hch⟩ := kp_new h0
    have hba : Below w'.heap.size w' (w'.alloc (.cells #[.int .i64 8, .int .i64 (p : Int)] 38)) := (Below.refl _ _).alloc (Nat.le_refl _) _
    have f5 : ¬ footH g vr mb S w0.heap.size := fun e => by have := hF _ e; omega
    have hH := hc.high hb.size fun k hk => Nat.le_of_lt (hF k hk)
    refine ⟨by rw [hv], p, by rw [hv], F', addM m o, ⟨hh2.below hba, add_here h1, add_sm h2, hk, hbw.trans (hba.mono hbw.size), fun k hk => ⟨Nat.lt_of_le_of_ne (hH k hk) fun e => hc.out hz f5 (by rw [e]; exact hk), fun e => by have := hh2.lt k hk; omega⟩, (hba.block _ (by have := hc.size; omega)).trans ((hc.block _ hz f5).trans h5), heap_alloc_new _ _, by have := hc.size; omega⟩, fun w2 hb2 => ?_⟩
    have hp : (p : Int) ≤ 16384 := by
      have := hk.lt
      have := hh2.ok.len
      have := hh2.ok.l1
      omega
    obtain ⟨vr2, mb2, S2, hh3, rfl⟩ := (hh2.below hba).below hb2
    refine (hh3.changed 8 p (by omega) (by omega)).mono ?_
    rintro ex w3 ⟨rfl, hb3⟩
    exact ⟨by rw [hch], hb3⟩
  · exact .inl ⟨by rw [hv], by rw [hv], hE⟩
end
end Go.Proofs.Ythmajccajmnfcaa
