/- What is asked of an object that is there. -/
import Derived.Test.YtekmboolfjicbaaHDrop
set_option maxRecDepth 20000
set_option linter.unusedSimpArgs false
namespace Go.Proofs.Ytekmboolfjicbaa
open Go.RowKit

/-- Nothing is away. -/
def Here (L : Pls) : Prop := ∀ i c, clAt L i = some c → c.away = false
/-- The object that a value refers to. -/
def obAt (L : Pls) (v : Int × Int) : Ob := if hasP L v = true then ((clAt L v.2.toNat).map Cl.o).getD ⟨0, [], []⟩ else ⟨0, [], []⟩
def hasE (L : Pls) (v : Int × Int) : Int := if hasP L v = true then 0 else 5
theorem obAt_some {L : Pls} {v : Int × Int} {c : Cl} (hv : hasP L v = true) (hc : clAt L v.2.toNat = some c) : obAt L v = c.o := by unfold obAt; rw [if_pos hv, hc]; rfl
theorem obAt_none {L : Pls} {v : Int × Int} (hv : hasP L v = false) : obAt L v = ⟨0, [], []⟩ := by unfold obAt; rw [if_neg (by rw [hv]; decide)]
theorem hasE_some {L : Pls} {v : Int × Int} (hv : hasP L v = true) : hasE L v = 0 := if_pos hv
theorem hasE_none {L : Pls} {v : Int × Int} (hv : hasP L v = false) : hasE L v = 5 := if_neg (by rw [hv]; decide)
section
variable {w w' : World} {g mb : Nat} {vr : Value} {S : Nat → Option Pos} {m : Hm}
set_option maxHeartbeats 800000 in
theorem Hp.there (h : Hp w g vr mb S m) (hh : Here m.L) (K N : Int) (h0 : -9223372036854775808 ≤ N) (h1 : N ≤ 9223372036854775807) :
    Calls Try.prog 41 #[.pointer (some ⟨g, 0, none⟩), .agg #[.int .i64 K, .int .i64 N]] w fun e w' => e = .returned (.tuple #[cellV S m.L (K, N), .int .i64 (hasE m.L (K, N))]) ∧ Below w.heap.size w w' := by
  have HB0 : Hid (Below w.heap.size w (w.alloc (.cells #[.int .i64 K, .int .i64 N] 36))) := Lib.hid ((Below.refl _ _).alloc (Nat.le_refl _) _)
  have HC : Hid (∀ w1, Below w.heap.size w w1 → Calls Try.prog 58 #[.pointer (some ⟨g, 0, none⟩), .agg #[.int .i64 K, .int .i64 N]] w1 fun e w' => e = .returned (cellV S m.L (K, N)) ∧ Below w1.heap.size w1 w') := Lib.hid fun w1 hb => (h.below hb).cell K N h0 h1
  cases hv : hasP m.L (K, N) with
  | false =>
    rw [hasE_none hv, cellV_nil _ _ _ hv]
    rw [cellV_nil _ _ _ hv] at HC
    clear h hv
    go_enter Try.func41, Try.ntmps41
    go_wp2_with (go_at_call 58; with_reducible refine (HC.out _ HB0.out).mono ?_; rintro e w1 ⟨rfl, hb⟩)
    go_ret2
    exact ⟨rfl, HB0.out.trans (hb.mono HB0.out.size)⟩
  | true =>
    obtain ⟨_, _, c, hc⟩ := hasP_iff.1 hv
    obtain ⟨x, hx, hca, e⟩ := h.cellV_some hv hc
    rw [hasE_some hv, e]
    rw [e] at HC
    have c4 := hca.c4
    rw [hh _ c hc] at c4
    clear h hv e hca
    go_enter Try.func41, Try.ntmps41
    go_wp2_with (go_at_call 58; with_reducible refine (HC.out _ HB0.out).mono ?_; rintro e w1 ⟨rfl, hb⟩; have y4 := ((HB0.out.trans (hb.mono HB0.out.size)).cell (World.block_lt_of_cell? w _ c4)).trans c4)
    go_ret2
    exact ⟨rfl, HB0.out.trans (hb.mono HB0.out.size)⟩
/-- 'there', in any world behind. -/
theorem Hp.thereH (h : Hp w g vr mb S m) (hh : Here m.L) (K N : Int) (h0 : -9223372036854775808 ≤ N) (h1 : N ≤ 9223372036854775807) :
    Hid (∀ w1, Below w.heap.size w w1 → Calls Try.prog 41 #[.pointer (some ⟨g, 0, none⟩), .agg #[.int .i64 K, .int .i64 N]] w1 fun e w' => e = .returned (.tuple #[cellV S m.L (K, N), .int .i64 (hasE m.L (K, N))]) ∧ Below w1.heap.size w1 w') :=
  Lib.hid fun _ hb => (h.below hb).there hh K N h0 h1
set_option maxHeartbeats 800000 in
theorem Hp.kind (h : Hp w g vr mb S m) (hh : Here m.L) (K N : Int) (h0 : -9223372036854775808 ≤ N) (h1 : N ≤ 9223372036854775807) :
    Calls Try.prog 68 #[.pointer (some ⟨g, 0, none⟩), .agg #[.int .i64 K, .int .i64 N]] w fun e w' => e = .returned (.tuple #[.int .i64 (obAt m.L (K, N)).k, .int .i64 (hasE m.L (K, N))]) ∧ Below w.heap.size w w' := by
  have HB0 : Hid (Below w.heap.size w (w.alloc (.cells #[.int .i64 K, .int .i64 N] 36))) := Lib.hid ((Below.refl _ _).alloc (Nat.le_refl _) _)
  have HC := h.thereH hh K N h0 h1
  cases hv : hasP m.L (K, N) with
  | false =>
    rw [hasE_none hv, obAt_none hv]
    rw [cellV_nil _ _ _ hv, hasE_none hv] at HC
    clear h hv
    go_enter Try.func68, Try.ntmps68
    go_wp2_with (go_at_call 41; with_reducible refine (HC.out _ HB0.out).mono ?_; rintro e w1 ⟨rfl, hb⟩)
    go_ret2
    exact ⟨rfl, HB0.out.trans (hb.mono HB0.out.size)⟩
  | true =>
    obtain ⟨_, _, c, hc⟩ := hasP_iff.1 hv
    obtain ⟨x, hx, hca, e⟩ := h.cellV_some hv hc
    rw [hasE_some hv, obAt_some hv hc]
    rw [e, hasE_some hv] at HC
    have c4 := hca.c0
    clear h hv e hca
    go_enter Try.func68, Try.ntmps68
    go_wp2_with (go_at_call 41; with_reducible refine (HC.out _ HB0.out).mono ?_; rintro e w1 ⟨rfl, hb⟩; have y4 := ((HB0.out.trans (hb.mono HB0.out.size)).cell (World.block_lt_of_cell? w _ c4)).trans c4)
    go_ret2
    exact ⟨rfl, HB0.out.trans (hb.mono HB0.out.size)⟩
set_option maxHeartbeats 800000 in
theorem Hp.size (h : Hp w g vr mb S m) (hh : Here m.L) (K N : Int) (h0 : -9223372036854775808 ≤ N) (h1 : N ≤ 9223372036854775807) :
    Calls Try.prog 64 #[.pointer (some ⟨g, 0, none⟩), .agg #[.int .i64 K, .int .i64 N]] w fun e w' => e = .returned (.tuple #[.int .i64 ((obAt m.L (K, N)).vs.length : Int), .int .i64 (hasE m.L (K, N))]) ∧ Below w.heap.size w w' := by
  have HB0 : Hid (Below w.heap.size w (w.alloc (.cells #[.int .i64 K, .int .i64 N] 36))) := Lib.hid ((Below.refl _ _).alloc (Nat.le_refl _) _)
  have HC := h.thereH hh K N h0 h1
  cases hv : hasP m.L (K, N) with
  | false =>
    rw [hasE_none hv, obAt_none hv]
    rw [cellV_nil _ _ _ hv, hasE_none hv] at HC
    clear h hv
    go_enter Try.func64, Try.ntmps64
    go_wp2_with (go_at_call 41; with_reducible refine (HC.out _ HB0.out).mono ?_; rintro e w1 ⟨rfl, hb⟩)
    go_ret2
    exact ⟨rfl, HB0.out.trans (hb.mono HB0.out.size)⟩
  | true =>
    obtain ⟨_, _, c, hc⟩ := hasP_iff.1 hv
    obtain ⟨x, hx, hca, e⟩ := h.cellV_some hv hc
    rw [hasE_some hv, obAt_some hv hc]
    rw [e, hasE_some hv] at HC
    have c4 := hca.c1
    obtain ⟨q, d, e1⟩ := hca.vform
    rw [e1] at c4
    generalize c.o.vs.length = n at *
    clear h hv e hca e1
    go_enter Try.func64, Try.ntmps64
    go_wp2_with (go_at_call 41; with_reducible refine (HC.out _ HB0.out).mono ?_; rintro e w1 ⟨rfl, hb⟩; have y4 := ((HB0.out.trans (hb.mono HB0.out.size)).cell (World.block_lt_of_cell? w _ c4)).trans c4)
    go_ret2
    exact ⟨rfl, HB0.out.trans (hb.mono HB0.out.size)⟩
set_option maxHeartbeats 800000 in
theorem Hp.isAway (h : Hp w g vr mb S m) (hh : Here m.L) (K N : Int) (h0 : -9223372036854775808 ≤ N) (h1 : N ≤ 9223372036854775807) :
    Calls Try.prog 67 #[.pointer (some ⟨g, 0, none⟩), .agg #[.int .i64 K, .int .i64 N]] w fun e w' => e = .returned (.bool false) ∧ Below w.heap.size w w' := by
  have HB0 : Hid (Below w.heap.size w (w.alloc (.cells #[.int .i64 K, .int .i64 N] 36))) := Lib.hid ((Below.refl _ _).alloc (Nat.le_refl _) _)
  have HC : Hid (∀ w1, Below w.heap.size w w1 → Calls Try.prog 58 #[.pointer (some ⟨g, 0, none⟩), .agg #[.int .i64 K, .int .i64 N]] w1 fun e w' => e = .returned (cellV S m.L (K, N)) ∧ Below w1.heap.size w1 w') := Lib.hid fun w1 hb => (h.below hb).cell K N h0 h1
  cases hv : hasP m.L (K, N) with
  | false =>
    rw [cellV_nil _ _ _ hv] at HC
    clear h hv
    go_enter Try.func67, Try.ntmps67
    go_wp2_with (go_at_call 58; with_reducible refine (HC.out _ HB0.out).mono ?_; rintro e w1 ⟨rfl, hb⟩)
    go_ret
    exact ⟨rfl, HB0.out.trans (hb.mono HB0.out.size)⟩
  | true =>
    obtain ⟨_, _, c, hc⟩ := hasP_iff.1 hv
    obtain ⟨x, hx, hca, e⟩ := h.cellV_some hv hc
    rw [e] at HC
    have c4 := hca.c4
    rw [hh _ c hc] at c4
    clear h hv e hca hc
    go_enter Try.func67, Try.ntmps67
    go_wp2_with (go_at_call 58; with_reducible refine (HC.out _ HB0.out).mono ?_; rintro e w1 ⟨rfl, hb⟩; have y4 := ((HB0.out.trans (hb.mono HB0.out.size)).cell (World.block_lt_of_cell? w _ c4)).trans c4)
    go_ret
    exact ⟨rfl, HB0.out.trans (hb.mono HB0.out.size)⟩
end
end Go.Proofs.Ytekmboolfjicbaa
