/- Texts RdD4 to RgR of this seat, laid into one. -/
import Derived.RangeFuncNested
import Derived.RangeFuncBound
import Derived.RangeFuncCalls
import Derived.RangeFuncLeaves
import Derived.RangeFuncBox
import Derived.Shelf.Abstract
import Derived.Shelf.RegionOpen
import Derived.WalkKit
import Derived.OwnWalkIn
import Derived.TacticsInMore
import Derived.LoopNIn
import Derived.LoopIn
import Derived.OrdersHeld
import Derived.OrdersIn
import Derived.Test.YthjjgpepgbfalaaGreatDoorM01
import Derived.Test.YthjjgpepgbfalaaGreatDoorM20
set_option linter.unusedVariables false
set_option linter.unusedSimpArgs false
set_option linter.constructorNameAsVariable false
section
/-! A pair's values. -/
set_option maxRecDepth 20000
set_option linter.unusedSimpArgs false
set_option linter.unusedVariables false
namespace Go.Proofs.YthjjgpepgbfalaaGreatDoor
open Go.RowKit Go.Shelf

theorem results_row2_tmp {P : Program} {fn : Func} {p q u : Tmp} {ty : TypeId} (h : fn.results = #[.cell p ty, .cell q ty, .tmp u]) (tmps : Array Value) (w : World) (g g2 : Nat) (t : TypeId) (cs ds : Array Value) (fr : Nat × Nat) (d : TypeDesc)
    (hp : tmps.getD p undef = .pointer (some ⟨g, 0, none⟩)) (hq : tmps.getD q undef = .pointer (some ⟨g2, 0, none⟩)) (hg : w.heap[g]? = some (.cells cs t fr)) (hg2 : w.heap[g2]? = some (.cells ds t fr))
    (hu : P.underlying ty = some d) (hd : (match d with | .struct _ | .array _ _ => true | _ => false) = true) (hi : (P.info? ty).map (·.size) = some cs.size) (hi2 : cs.size = ds.size) :
    (results fn tmps).run P w = .ok (.tuple #[.agg cs, .agg ds, tmps.getD u undef]) w := by
  have hp' : tmps[p]?.getD undef = .pointer (some ⟨g, 0, none⟩) := by simpa using hp
  have hq' : tmps[q]?.getD undef = .pointer (some ⟨g2, 0, none⟩) := by simpa using hq
  have e1 := run_loadVar_row w g t ty cs fr d hg hu hd hi
  have e2 := run_loadVar_row w g2 t ty ds fr d hg2 hu hd (by rw [hi, hi2])
  simp [results, h, hp', hq', asAddr, e1, e2, Sem.run_bind, Result.andThen]
/-- Is it a pair? -/
def isPr (L : Pls) (v : Int × Int) : Bool := hasP L v && decide ((obAt L v).k = 0)
theorem alloc3 (w : World) (A B C : Obj) : ((((w.alloc A).alloc B).alloc C).heap[w.heap.size]? = some A) ∧ (((w.alloc A).alloc B).alloc C).heap[w.heap.size + 1]? = some B ∧ (((w.alloc A).alloc B).alloc C).heap[w.heap.size + 2]? = some C := by
  have e1 : (w.alloc A).heap.size = w.heap.size + 1 := by simp
  have e2 : ((w.alloc A).alloc B).heap.size = w.heap.size + 2 := by simp
  have n1 := heap_alloc_new (w.alloc A) B
  have n2 := heap_alloc_new ((w.alloc A).alloc B) C
  rw [e1] at n1
  rw [e2] at n2
  exact ⟨(Below.heap_alloc _ _ _ (by omega)).trans ((Below.heap_alloc _ _ _ (by omega)).trans (heap_alloc_new w A)), (Below.heap_alloc _ _ _ (by omega)).trans n1, n2⟩
section
variable {w w1 w2 w3 : World} {g : Nat} {F : Nat → Prop} {m m' : Hm}
def pairR (L : Pls) (v : Int × Int) : Value := if isPr L v = true then .tuple #[valV (atV L v 0), valV (atV L v 1), .bool true] else .tuple #[valV (0, 0), valV (0, 0), .bool false]
/-- A box of a value. -/
structure Bx2 (w : World) (b : Nat) (x y : Value) : Prop where
  row : w.heap[b]? = some (.cells #[x, y] 36 (0, 0))
  c0 : w.cell? ⟨b, 0, none⟩ = some x
  c1 : w.cell? ⟨b, 1, none⟩ = some y
  f0 : w.frozen? ⟨b, 0, none⟩ = false
  f1 : w.frozen? ⟨b, 1, none⟩ = false
theorem Bx2.of {w : World} {b : Nat} {x y : Value} (h : w.heap[b]? = some (.cells #[x, y] 36 (0, 0))) : Bx2 w b x y :=
  ⟨h, cell_of_row _ _ 0 _ _ _ h, cell_of_row _ _ 1 _ _ _ h, frozen_of_row _ _ 0 _ _ h, frozen_of_row _ _ 1 _ _ h⟩
theorem Bx2.below {w w' : World} {b : Nat} {x y : Value} (h : Bx2 w b x y) {B : Nat} (hb : Below B w w') (hl : b < B) : Bx2 w' b x y := Bx2.of ((hb.block b hl).trans h.row)
theorem Bx2.lt {w : World} {b : Nat} {x y : Value} (h : Bx2 w b x y) : b < w.heap.size := lt_of_block h.row
theorem Bx2.four {w : World} {b c : Nat} {x y z t : Value} (h1 : Bx2 w b x y) (h2 : Bx2 w c z t) (hne : b ≠ c) (x' y' z' t' : Value) :
    ((((w.setCell ⟨b, 0, none⟩ x').setCell ⟨b, 1, none⟩ y').setCell ⟨c, 0, none⟩ z').setCell ⟨c, 1, none⟩ t').heap[b]? = some (.cells #[x', y'] 36 (0, 0)) ∧
    ((((w.setCell ⟨b, 0, none⟩ x').setCell ⟨b, 1, none⟩ y').setCell ⟨c, 0, none⟩ z').setCell ⟨c, 1, none⟩ t').heap[c]? = some (.cells #[z', t'] 36 (0, 0)) := by
  have r1 := two_row _ _ _ _ _ x' y' h1.row
  have o1 := two_only w b x' y'
  have r2 := (o1.block c h2.lt (Ne.symm hne)).trans h2.row
  have o2 := two_only ((w.setCell ⟨b, 0, none⟩ x').setCell ⟨b, 1, none⟩ y') c z' t'
  exact ⟨(o2.block b (lt_of_block r1) hne).trans r1, two_row _ _ _ _ _ z' t' r2⟩
theorem below_two {B : Nat} {w w' : World} (h : Below B w w') {b : Nat} (hb : B ≤ b) (x y : Value) : Below B w ((w'.setCell ⟨b, 0, none⟩ x).setCell ⟨b, 1, none⟩ y) :=
  (h.setCell (p := ⟨b, 0, none⟩) hb _).setCell (p := ⟨b, 1, none⟩) hb _
theorem isPr_not {L : Pls} {v : Int × Int} (h : isPr L v = false) : hasE L v = 5 ∨ hasE L v = 0 ∧ (obAt L v).k ≠ 0 := by
  unfold isPr at h
  rw [Bool.and_eq_false_iff] at h
  rcases hP : hasP L v with _ | _
  · exact .inl (hasE_none hP)
  · refine .inr ⟨hasE_some hP, ?_⟩
    rcases h with h | h
    · rw [hP] at h; cases h
    · exact of_decide_eq_false h
theorem isPr_yes {L : Pls} {v : Int × Int} (h : isPr L v = true) : hasE L v = 0 ∧ (obAt L v).k = 0 := by
  unfold isPr at h
  rw [Bool.and_eq_true] at h
  exact ⟨hasE_some h.1, of_decide_eq_true h.2⟩
set_option maxHeartbeats 1600000 in
theorem pair_any (h : Hep w g F m) (hh : Here m.L) (K N : Int) (hN : I64 N) :
    Calls Tryz.prog 14 #[.pointer (some ⟨g, 0, none⟩), .agg #[.int .i64 K, .int .i64 N]] w fun e w' => e = .returned (pairR m.L (K, N)) ∧ Below w.heap.size w w' := by
  obtain ⟨R, hR⟩ : ∃ R, pairR m.L (K, N) = R := ⟨_, rfl⟩
  rw [hR]
  obtain ⟨W3, hW3⟩ : ∃ W3, ((w.alloc (.cells #[.int .i64 K, .int .i64 N] 36)).alloc (.cells #[.int .i64 0, .int .i64 0] 36)).alloc (.cells #[.int .i64 0, .int .i64 0] 36) = W3 := ⟨_, rfl⟩
  have hb : Below w.heap.size w W3 := by rw [← hW3]; exact (((Below.refl _ _).alloc (Nat.le_refl _) _).alloc (by simp) _).alloc (by simp; omega) _
  have hsz : W3.heap.size = w.heap.size + 3 := by rw [← hW3]; simp
  have h012 := alloc3 w (.cells #[.int .i64 K, .int .i64 N] 36) (.cells #[.int .i64 0, .int .i64 0] 36) (.cells #[.int .i64 0, .int .i64 0] 36)
  rw [hW3] at h012
  have b0 := Bx2.of h012.1
  have b1 := Bx2.of h012.2.1
  have b2 := Bx2.of h012.2.2
  have HK := Lib.hid ((h.below hb).kind hh K N hN)
  have HSV := Lib.hid sizeVal
  have B0 := Lib.hid b0
  have B1 := Lib.hid b1
  have B2 := Lib.hid b2
  have HB := Lib.hid hb
  have HSZ := Lib.hid hsz
  have e0 := b0.c0
  have e1 := b0.c1
  rcases hp : isPr m.L (K, N) with _ | _
  · have HR : Hid (R = .tuple #[valV (0, 0), valV (0, 0), .bool false]) := Lib.hid (by rw [← hR]; unfold pairR; rw [hp]; rfl)
    have hn := isPr_not hp
    clear h012 b0 b1 b2 hb hsz hR hp h
    rcases hn with h5 | ⟨h5, hk⟩
    · rw [h5] at HK
      clear h5
      go_enter Tryz.func14, Tryz.ntmps14
      go_wp2_with (go_at_call 22; with_reducible refine HK.out.mono ?_; rintro e w4 ⟨rfl, hb4⟩; have f1 := (B1.out.below hb4 (B1.out.lt)).f0; have f2 := (B1.out.below hb4 (B1.out.lt)).f1; have f3 := (B2.out.below hb4 (B2.out.lt)).f0; have f4 := (B2.out.below hb4 (B2.out.lt)).f1; have f5 := (B1.out.below hb4 (B1.out.lt)).c0; have f6 := (B1.out.below hb4 (B1.out.lt)).c1; have f7 := (B2.out.below hb4 (B2.out.lt)).c0; have f8 := (B2.out.below hb4 (B2.out.lt)).c1)
      have HF := Bx2.four (B1.out.below hb4 (B1.out.lt)) (B2.out.below hb4 (B2.out.lt)) (by omega) (.int .i64 0) (.int .i64 0) (.int .i64 0) (.int .i64 0)
      have HSZ2 := HSZ.out
      exact bodyPost_ret (results_row2_tmp Tryz.results14 _ _ (w.heap.size + 1) (w.heap.size + 2) 36 _ _ (0, 0) _ rfl rfl HF.1 HF.2 Tryz.underlying36 rfl HSV.out rfl) rfl ⟨by rw [HR.out]; rfl, below_two (below_two (HB.out.trans (hb4.mono (by omega))) (by omega) _ _) (by omega) _ _⟩
    · rw [h5] at HK
      clear h5
      generalize (obAt m.L (K, N)).k = kk at *
      have dk : ((kk : Int) != 0) = true := by simpa using hk
      go_enter Tryz.func14, Tryz.ntmps14
      go_wp2_with (go_at_call 22; with_reducible refine HK.out.mono ?_; rintro e w4 ⟨rfl, hb4⟩; have f1 := (B1.out.below hb4 (B1.out.lt)).f0; have f2 := (B1.out.below hb4 (B1.out.lt)).f1; have f3 := (B2.out.below hb4 (B2.out.lt)).f0; have f4 := (B2.out.below hb4 (B2.out.lt)).f1; have f5 := (B1.out.below hb4 (B1.out.lt)).c0; have f6 := (B1.out.below hb4 (B1.out.lt)).c1; have f7 := (B2.out.below hb4 (B2.out.lt)).c0; have f8 := (B2.out.below hb4 (B2.out.lt)).c1)
      have HF := Bx2.four (B1.out.below hb4 (B1.out.lt)) (B2.out.below hb4 (B2.out.lt)) (by omega) (.int .i64 0) (.int .i64 0) (.int .i64 0) (.int .i64 0)
      have HSZ2 := HSZ.out
      exact bodyPost_ret (results_row2_tmp Tryz.results14 _ _ (w.heap.size + 1) (w.heap.size + 2) 36 _ _ (0, 0) _ rfl rfl HF.1 HF.2 Tryz.underlying36 rfl HSV.out rfl) rfl ⟨by rw [HR.out]; rfl, below_two (below_two (HB.out.trans (hb4.mono (by omega))) (by omega) _ _) (by omega) _ _⟩

  · have HR : Hid (R = .tuple #[valV (atV m.L (K, N) 0), valV (atV m.L (K, N) 1), .bool true]) := Lib.hid (by rw [← hR]; unfold pairR; rw [hp]; rfl)
    obtain ⟨hn, hk⟩ := isPr_yes hp
    have HAT : Hid (∀ W, Below W3.heap.size W3 W → ∀ i : Int, Calls Tryz.prog 23 #[.pointer (some ⟨g, 0, none⟩), .agg #[.int .i64 K, .int .i64 N], .int .i64 i] W fun e w' => e = .returned (.tuple #[.agg #[.int .i64 (atV m.L (K, N) i).1, .int .i64 (atV m.L (K, N) i).2], .int .i64 (atE m.L (K, N) i)]) ∧ Below W.heap.size W w') := Lib.hid fun W hW i => ((h.below hb).below hW).at' hh K N hN i
    rw [hn, hk] at HK
    clear h012 b0 b1 b2 hb hsz hR hp h hn hk
    generalize atV m.L (K, N) = av at *
    generalize atE m.L (K, N) = ae at *
    have HAT0 : Hid (∀ W, Below W3.heap.size W3 W → Calls Tryz.prog 23 #[.pointer (some ⟨g, 0, none⟩), .agg #[.int .i64 K, .int .i64 N], .int .i64 0] W fun e w' => e = .returned (.tuple #[.agg #[.int .i64 (av 0).1, .int .i64 (av 0).2], .int .i64 (ae 0)]) ∧ Below W.heap.size W w') := Lib.hid fun W hW => HAT.out W hW 0
    have HAT1 : Hid (∀ W, Below W3.heap.size W3 W → Calls Tryz.prog 23 #[.pointer (some ⟨g, 0, none⟩), .agg #[.int .i64 K, .int .i64 N], .int .i64 1] W fun e w' => e = .returned (.tuple #[.agg #[.int .i64 (av 1).1, .int .i64 (av 1).2], .int .i64 (ae 1)]) ∧ Below W.heap.size W w') := Lib.hid fun W hW => HAT.out W hW 1
    clear HAT
    generalize av 0 = x at *
    generalize av 1 = y at *
    generalize ae 0 = e0' at *
    generalize ae 1 = e1' at *
    obtain ⟨x1, x2⟩ := x
    obtain ⟨y1, y2⟩ := y
    go_enter Tryz.func14, Tryz.ntmps14
    go_wp2_with (first | (go_at_call 23; with_reducible refine (HAT1.out _ ((hb4.trans (hb5.mono hb4.size)).alloc (Nat.le_trans hb4.size hb5.size) _)).mono ?_; rintro e w6 ⟨rfl, hb6⟩; have k0 := B0.out.below hb4 B0.out.lt; have k1 := k0.below hb5 k0.lt; have k3 := k1.below (alloc_below w5 (.cells #[.int .i64 x1, .int .i64 x2] 36)) k1.lt; have k4 := k3.below hb6 k3.lt; have z1 := B1.out.below hb4 B1.out.lt; have z2 := z1.below hb5 z1.lt; have z3 := z2.below (alloc_below w5 (.cells #[.int .i64 x1, .int .i64 x2] 36)) z2.lt; have z4 := z3.below hb6 z3.lt; have y1' := B2.out.below hb4 B2.out.lt; have y2' := y1'.below hb5 y1'.lt; have y3' := y2'.below (alloc_below w5 (.cells #[.int .i64 x1, .int .i64 x2] 36)) y2'.lt; have y4' := y3'.below hb6 y3'.lt; have q0 := Bx2.of (heap_alloc_new w5 (.cells #[.int .i64 x1, .int .i64 x2] 36)); have q1 := q0.below hb6 q0.lt; have c1 := z4.c0; have c2 := z4.c1; have c3 := z4.f0; have c4 := z4.f1; have c5 := y4'.c0; have c6 := y4'.c1; have c7 := y4'.f0; have c8 := y4'.f1; have c9 := q1.c0; have c10 := q1.c1) | (go_at_call 23; with_reducible refine (HAT0.out _ hb4).mono ?_; rintro e w5 ⟨rfl, hb5⟩; have k0 := B0.out.below hb4 B0.out.lt; have f3 := (k0.below hb5 k0.lt).c0; have f4 := (k0.below hb5 k0.lt).c1; have f5 := (((k0.below hb5 k0.lt)).below (alloc_below w5 (.cells #[.int .i64 x1, .int .i64 x2] 36)) (k0.below hb5 k0.lt).lt).c0; have f6 := (((k0.below hb5 k0.lt)).below (alloc_below w5 (.cells #[.int .i64 x1, .int .i64 x2] 36)) (k0.below hb5 k0.lt).lt).c1) | (go_at_call 22; with_reducible refine HK.out.mono ?_; rintro e w4 ⟨rfl, hb4⟩; have f1 := (B0.out.below hb4 (B0.out.lt)).c0; have f2 := (B0.out.below hb4 (B0.out.lt)).c1))
    have z5 := z4.below (alloc_below w6 (.cells #[.int .i64 y1, .int .i64 y2] 36)) z4.lt
    have y5' := y4'.below (alloc_below w6 (.cells #[.int .i64 y1, .int .i64 y2] 36)) y4'.lt
    have q2 := q1.below (alloc_below w6 (.cells #[.int .i64 y1, .int .i64 y2] 36)) q1.lt
    have p2 := Bx2.of (heap_alloc_new w6 (.cells #[.int .i64 y1, .int .i64 y2] 36))
    have hb7 : Below w.heap.size w (w6.alloc (.cells #[.int .i64 y1, .int .i64 y2] 36)) := by
      have s1 := HB.out.size
      have s2 := hb4.size
      have s3 := hb5.size
      have s4 : w5.heap.size ≤ (w5.alloc (.cells #[.int .i64 x1, .int .i64 x2] 36)).heap.size := by simp
      have s5 := hb6.size
      exact ((((HB.out.trans (hb4.mono s1)).trans (hb5.mono (by omega))).trans ((alloc_below w5 _).mono (by omega))).trans (hb6.mono (by omega))).trans ((alloc_below w6 _).mono (by omega))
    clear k0 k1 k3 k4 z1 z2 z3 z4 y1' y2' y3' y4' q0 q1 c1 c2 c3 c4 c5 c6 c7 c8 c9 c10 f1 f2 f3 f4 f5 f6 e0 e1
    have g9 : w.heap.size + 3 ≤ w5.heap.size := by have s1 := hb4.size; have s2 := hb5.size; have s0 := HSZ.out; omega
    have g11 : w.heap.size + 3 ≤ w6.heap.size := by
      have s4 : w5.heap.size ≤ (w5.alloc (.cells #[.int .i64 x1, .int .i64 x2] 36)).heap.size := by simp
      have s5 := hb6.size
      omega
    generalize w5.heap.size = b9 at *
    generalize w6.heap.size = b11 at *
    generalize w6.alloc (.cells #[.int .i64 y1, .int .i64 y2] 36) = w7 at *
    have c1 := z5.c0; have c2 := z5.c1; have c3 := z5.f0; have c4 := z5.f1; have c5 := y5'.c0; have c6 := y5'.c1; have c7 := y5'.f0; have c8 := y5'.f1; have c9 := q2.c0; have c10 := q2.c1; have c11 := p2.c0; have c12 := p2.c1
    have Z5 := Lib.hid z5; have Y5 := Lib.hid y5'; have HB7 := Lib.hid hb7
    clear z5 y5' q2 p2 hb7
    have n1 : b9 ≠ w.heap.size + 1 := by omega
    have n2 : b9 ≠ w.heap.size + 2 := by omega
    have n3 : b11 ≠ w.heap.size + 1 := by omega
    have n4 : b11 ≠ w.heap.size + 2 := by omega
    have n5 := Ne.symm n1
    have n6 := Ne.symm n2
    have n7 := Ne.symm n3
    have n8 := Ne.symm n4
    go_region
    have HF := Bx2.four Z5.out Y5.out (by omega) (.int .i64 x1) (.int .i64 x2) (.int .i64 y1) (.int .i64 y2)
    go_wp2_with fail
    exact bodyPost_ret (results_row2_tmp Tryz.results14 _ _ (w.heap.size + 1) (w.heap.size + 2) 36 _ _ (0, 0) _ rfl rfl HF.1 HF.2 Tryz.underlying36 rfl HSV.out rfl) rfl ⟨by rw [HR.out]; rfl, (below_two (below_two HB7.out (by omega) _ _) (by omega) _ _).drew⟩
end
end Go.Proofs.YthjjgpepgbfalaaGreatDoor
end
section
/-! A range over a function that looks at the world anew ahead of each round: what the loop's end is told comes from that world. -/
namespace Go.Proofs.YthjjgpepgbfalaaGreatDoor
open Go.RowKit

section
variable {F : Fence} {n : Nat} {P : Program}
end
end Go.Proofs.YthjjgpepgbfalaaGreatDoor
end
section
/-! A range over a function that looks at the world anew, for a caller whose invariant speaks of maps: only the loop's own blocks are turned. -/
set_option linter.unusedVariables false
namespace Go.Proofs.YthjjgpepgbfalaaGreatDoor
open Go.RowKit

/-- A block of the loop's own. -/
def turns : Obj → Bool
  | .loop _ => true
  | .deferred _ => true
  | _ => false
def OwnT {β : Type} (B : Nat) (I : β → World → Prop) : Prop :=
  ∀ s W W' row, I s W → W.grownBy W' row → (∀ r, row = some r → B ≤ r ∧ ∃ o : Obj, W.heap[r]? = some o ∧ turns o = true) → I s W'
theorem OwnT.putObj {β : Type} {B : Nat} {I : β → World → Prop} (h : OwnT B I) {s : β} {W : World} {l : Nat} {o : Obj} (o' : Obj) (hs : I s W) (hB : B ≤ l) (hl : W.heap[l]? = some o) (ho : turns o = true) : I s (W.putObj l o') :=
  h s W _ (some l) hs (grownBy_putObj' W l o') (fun r e => by cases e; exact ⟨hB, o, hl, ho⟩)
theorem OwnT.alloc {β : Type} {B : Nat} {I : β → World → Prop} (h : OwnT B I) {s : β} {W : World} (o : Obj) (hs : I s W) : I s (W.alloc o) :=
  h s W _ none hs (World.grownBy_alloc W o none) (fun r e => by cases e)
/-- The loop's blocks from B on lie as they lay. -/
structure KeepsT (B : Nat) (W W' : World) : Prop where
  size : W.heap.size ≤ W'.heap.size
  same : ∀ (k : Nat) (o : Obj), B ≤ k → W.heap[k]? = some o → turns o = true → W'.heap[k]? = some o
theorem KeepsT.below {B : Nat} {W W' : World} (h : Below W.heap.size W W') : KeepsT B W W' := ⟨h.size, fun k o _ ho _ => (h.block k (Array.getElem?_eq_some_iff.1 ho).1).trans ho⟩
theorem KeepsT.trans {B : Nat} {W W1 W2 : World} (h : KeepsT B W W1) (h2 : KeepsT B W1 W2) : KeepsT B W W2 := ⟨Nat.le_trans h.size h2.size, fun k o hk ho ht => h2.same k o hk (h.same k o hk ho ht) ht⟩
section
variable {F : Fence} {n : Nat} {P : Program}
/-- An iterator by a count of its rounds: J is the caller's; Good: what the iterator leans on; Item: what it tells next; End: where it ends. -/
def SeqT {α : Type} (F : Fence) (n : Nat) (P : Program) (gf : Nat) (lb : Array Value) (encs : α → Array Value) (Good : Nat → World → Prop) (Item : Nat → α → World → Prop) (End : Nat → World → Prop) : Prop :=
  ∀ (l : Nat) (J : Nat → World → Prop) (W : World), (∀ i W1, J i W1 → Good i W1) →
    (∀ i x W1, J i W1 → Item i x W1 → YieldAt F (n - 1) P l (encs x) W1 fun e W' => e = .returned (.bool true) ∧ J (i + 1) W') →
    J 0 W → CallsIn F n P gf (#[.func (.yield l) #[] #[]] ++ lb) W fun e W' => (∃ v, e = .returned v) ∧ ∃ i, J i W' ∧ End i W'
theorem wpIn_rangeT {α : Type} {g : Operand} {ps : Array Tmp} {assign body : Code} {Q : Exit → Act → World → Prop} {a : Act} {w : World}
    (hro : F.round = none) (h1 : 1 ≤ n) {gf : Nat} {lb : Array Value} (hg : a.eval g = .func (.func gf) #[] lb) (hFg : F.fn gf) (eg : ∀ args w, (callFunc gf args).run P w = .ok (.enter gf args) w)
    {encs : α → Array Value} {Good : Nat → World → Prop} {Item : Nat → α → World → Prop} {End : Nat → World → Prop} (hseq : SeqT F (n - 1) P gf lb encs Good Item End) (hps : ∀ x, (encs x).size = ps.size)
    (I : Nat → World → Prop) (hI : OwnT w.heap.size I) (hG : ∀ i W, I i W → Good i W) (hE : ∀ i, OwnT w.heap.size (fun (_ : Unit) W => End i W)) (h0 : I 0 w)
    (Ax : Nat → α → Act → World → Prop) (hAx : ∀ i x a', OwnT w.heap.size (fun (_ : Unit) W => Ax i x a' W))
    (hassign : ∀ (l i : Nat) (x : α) (W : World) (K : Act → World → Prop), I i W → Item i x W → (∀ a' W', KeepsT w.heap.size W W' → Ax i x a' W' → K a' W') →
      assign.wpIn (F.inRound l) (n - 1 - 1) P (Exit.then K (fun _ _ _ => False)) { tmps := (ps.zip (encs x)).foldl (fun t (p, v) => t.setIfInBounds p v) a.tmps, defers := [] } W)
    (hbody : ∀ (l i : Nat) (x : α) (a' : Act) (W : World), w.heap.size ≤ l → Ax i x a' W → body.wpIn (F.inRound l) (n - 1 - 1) P (fun e _ W' => e = .normal ∧ KeepsT w.heap.size W W' ∧ I (i + 1) W') a' W)
    (hdone : ∀ (D i : Nat) (W : World), w.heap.size ≤ D → I i W → End i W → W.heap[D]? = some (.deferred (some [])) → Q .normal { a with defers := { target := .collected D, args := #[] } :: a.defers } W) :
    (Code.rangeFunc g ps assign body).wpIn F n P Q a w := by
  refine wpIn_rangeFunc fun fn hfn => ?_
  rw [hro]
  obtain ⟨rec, hrec⟩ : ∃ rec : LoopState → Loop, rec = fun st => { state := st, pending := none, fn, tmps := a.tmps, params := ps, assign, body, defers := w.heap.size } := ⟨_, rfl⟩
  have hps2 : ∀ st x, (encs x).size = (rec st).params.size := fun st x => by rw [hrec]; exact hps x
  have hst : ∀ st, (rec st).state = st := fun st => by rw [hrec]
  have hpe : ∀ st, (rec st).pending = none := fun st => by rw [hrec]
  have hup : ∀ s t, { rec s with state := t } = rec t := fun s t => by rw [hrec]
  have hup2 : ∀ s t, { rec s with state := t, pending := none } = rec t := fun s t => by rw [hrec]
  let W1 := (w.alloc (.deferred (some []))).alloc (.loop (rec .ready))
  have hL1 : W1.heap[w.heap.size + 1]? = some (.loop (rec .ready)) := by
    have := World.alloc_heap_new (w.alloc (.deferred (some []))) (.loop (rec .ready)); rwa [World.size_alloc] at this
  have hK1 : W1.heap[w.heap.size]? = some (.deferred (some [])) := (Below.heap_alloc _ _ _ (by simp)).trans (World.alloc_heap_new w _)
  have hz1 : W1.heap.size = w.heap.size + 2 := by show ((w.alloc _).alloc _).heap.size = _; simp
  refine ⟨w.heap.size + 1, [{ target := .collected w.heap.size, args := #[] }], W1, { target := .fn (.func gf) lb, args := #[.func (.yield (w.heap.size + 1)) #[] #[]] }, W1, gf,
    #[.func (.yield (w.heap.size + 1)) #[] #[]] ++ lb, W1, ?_, ?_, ?_, ?_, fun _ => h1, ?_⟩
  · show _ = Result.ok _ ((w.alloc (.deferred (some []))).alloc (.loop (rec .ready)))
    rw [hrec]; exact run_enterLoop_outer _ _ _ _ _
  · simp only [resolve, hg]
    simp [go_sem]
  · intro f' hf'; simp [Target.leads] at hf'; subst hf'; exact hFg
  · simp [invoke, go_sem, eg]
  · refine (hseq (w.heap.size + 1) (fun i W => I i W ∧ W.heap[w.heap.size + 1]? = some (.loop (rec .ready)) ∧ W.heap[w.heap.size]? = some (.deferred (some []))) W1 (fun i W h => hG i W h.1) ?_ ⟨hI.alloc _ (hI.alloc _ h0), hL1, hK1⟩).mono ?_
    · rintro i x W ⟨hi, hl, hk⟩ hit
      refine ⟨_, _, _, _, run_yield (P := P) (args := encs x) hl (hps2 _ x), ?_⟩
      have hrt : (rec .ready).fn = fn ∧ (rec .ready).tmps = a.tmps ∧ (rec .ready).params = ps ∧ (rec .ready).assign = assign ∧ (rec .ready).body = body := by rw [hrec]; exact ⟨rfl, rfl, rfl, rfl, rfl⟩
      obtain ⟨t1, t2, t3, t4, t5⟩ := hrt
      rw [t1, t2, t3, t4, t5]
      refine roundIn_of_wpIn hfn (hassign _ i x W _ hi hit ?_)
      intro a' Wa hkfa hax
      replace hl := hkfa.same _ _ (by omega) hl rfl
      replace hk := hkfa.same _ _ (Nat.le_refl _) hk rfl
      have hlt : w.heap.size + 1 < Wa.heap.size := (Array.getElem?_eq_some_iff.1 hl).1
      refine ⟨_, run_beginRound hl (hst _), ?_⟩
      rw [hup]
      have hl2 : (Wa.putObj (w.heap.size + 1) (.loop (rec .busy))).heap[w.heap.size + 1]? = some (.loop (rec .busy)) := World.putObj_heap_same hlt
      have hk2 : (Wa.putObj (w.heap.size + 1) (.loop (rec .busy))).heap[w.heap.size]? = some (.deferred (some [])) := (World.putObj_heap_other (by omega)).trans hk
      refine wpIn_mono (hbody _ i x a' _ (by omega) ((hAx i x a').putObj (s := ()) _ hax (by omega) hl rfl)) ?_
      rintro e a3 W3 ⟨rfl, hk3, hi3⟩
      have hl3 := hk3.same _ _ (by omega) hl2 rfl
      have hr := run_endRound (P := P) none hl3
      rw [show (if (none : Option Code).isNone = true then LoopState.ready else LoopState.done) = LoopState.ready from rfl, hup2] at hr
      exact ⟨_, _, hr, rfl, hI.putObj _ hi3 (by omega) hl3 rfl, World.putObj_heap_same (Array.getElem?_eq_some_iff.1 hl3).1, (World.putObj_heap_other (by omega)).trans (hk3.same _ _ (Nat.le_refl _) hk2 rfl)⟩
    · rintro e W2 ⟨⟨v, rfl⟩, i, ⟨hi, hl, hk⟩, hend⟩
      have hr := run_endLoop (P := P) hl (by rw [hst]; simp)
      rw [hpe] at hr
      exact ⟨none, _, hr, hdone _ i _ (Nat.le_refl _) (hI.putObj _ hi (by omega) hl rfl) ((hE i).putObj (s := ()) _ hend (by omega) hl rfl) ((World.putObj_heap_other (by omega)).trans hk)⟩
end
end Go.Proofs.YthjjgpepgbfalaaGreatDoor
end
section
/-! A loop over values from behind; how much room there is. -/
set_option maxRecDepth 20000
set_option linter.unusedSimpArgs false
set_option linter.unusedVariables false
namespace Go.Proofs.YthjjgpepgbfalaaGreatDoor
open Go.RowKit Go.Shelf
attribute [local go_sem] Oper.semAt_some

theorem Hep.live {w : World} {gh : Nat} {F : Nat → Prop} {m : Hm} (h : Hep w gh F m) : Calls Tryz.prog 27 #[.pointer (some ⟨gh, 0, none⟩)] w fun e w' => e = .returned (.int .i64 (liveN m.L : Int)) ∧ w' = w := by
  obtain ⟨vr, mb, S, hP, _⟩ := h
  have c2 := hP.c2
  generalize liveN m.L = n at *
  clear hP
  go_enter Tryz.func27, Tryz.ntmps27
  go_wp2_with fail
  go_ret
  exact ⟨rfl, rfl⟩
theorem Hep.limit {w : World} {gh : Nat} {F : Nat → Prop} {m : Hm} (h : Hep w gh F m) : Calls Tryz.prog 26 #[.pointer (some ⟨gh, 0, none⟩)] w fun e w' => e = .returned (.int .i64 (m.lim : Int)) ∧ w' = w := by
  obtain ⟨vr, mb, S, hP, _⟩ := h
  have c0 := hP.c0
  generalize m.lim = n at *
  clear hP
  go_enter Tryz.func26, Tryz.ntmps26
  go_wp2_with fail
  go_ret
  exact ⟨rfl, rfl⟩
/-- What the loop leans on: its box, and the row. -/
def GoodB (Bs n c : Nat) (q : Option Addr) (l : List (Int × Int)) (_i : Nat) (W : World) : Prop := W.cell? ⟨Bs, 0, none⟩ = some (.slice q n c) ∧ Vls W q n l
def ItemB (n : Nat) (l : List (Int × Int)) (i : Nat) (x : Nat × (Int × Int)) (_W : World) : Prop := i < n ∧ x = (n - 1 - i, l.getD (n - 1 - i) (0, 0))
def EndB (n i : Nat) (_W : World) : Prop := i = n
set_option maxRecDepth 100000 in
set_option maxHeartbeats 2000000 in
theorem backV_seq (n : Nat) (hn : 1 ≤ n) (Bs N c : Nat) (hN : N ≤ 100000) (q : Option Addr) (L : List (Int × Int)) : SeqT Fence.wide n Tryz.prog 108 #[.pointer (some ⟨Bs, 0, none⟩)] (fun x : Nat × (Int × Int) => #[.int .i64 (x.1 : Int), .agg #[.int .i64 x.2.1, .int .i64 x.2.2]]) (GoodB Bs N c q L) (ItemB N L) (EndB N) := by
  intro l J W hG hY h0
  have HY := Lib.hid hY
  have HG := Lib.hid hG
  have H0 := Lib.hid h0
  have y0 := (hG 0 W h0).1
  have hNI : (N : Int) ≤ 100000 := by omega
  clear hY hG h0
  refine callsIn_of_wp Tryz.func108 rfl trivial ?_ rfl
  simp only [Tryz.ntmps108, List.size_toArray, List.length_cons, List.length_nil, Nat.reduceAdd, Nat.reduceSub, Array.replicate_succ, Array.replicate_zero, List.push_toArray, List.append_toArray, List.nil_append, List.cons_append]
  gi_wp2
  clear y0
  gi_loopw [3] (fun i wr => ∃ (k : Nat) (z : Int), k ≤ N ∧ z = (N : Int) - 1 - (k : Int) ∧ i = .int .i64 z ∧ Hid (J k wr)) (fun i _ => (RowKit.intOf i + 1).toNat)
  case atStart => exact ⟨0, _, Nat.zero_le _, rfl, by simp, H0⟩
  case round =>
    obtain ⟨k, z, hk, hz, rfl, HS⟩ := hrel
    clear H0
    obtain ⟨hc, hv⟩ := HG.out k wr HS.out
    by_cases hlt : k < N
    · obtain ⟨j, hj⟩ : ∃ j, Hid (N = k + 1 + j) := ⟨N - 1 - k, Lib.hid (by omega)⟩
      have hjl : j < N := by have := hj.out; omega
      obtain rfl : z = (j : Int) := by have := hj.out; omega
      have hjI : (j : Int) < (N : Int) := by omega
      have HZ := Lib.hid hz
      have hjj : N - 1 - k = j := by have := hj.out; omega
      have HI : Hid (ItemB N L k (j, L.getD j (0, 0)) wr) := Lib.hid ⟨hlt, by rw [hjj]⟩
      obtain ⟨b, o, rfl, hcc⟩ := hv.2 (by omega)
      obtain ⟨e0, e1⟩ := hcc j hjl
      have hy0 := HY.out k (j, L.getD j (0, 0)) wr HS.out HI.out
      have HK : Hid (k + 1 ≤ N) := Lib.hid (by omega)
      clear hz hcc hv HI hlt hk hjj
      generalize L.getD j (0, 0) = x at *
      obtain ⟨x1, x2⟩ := x
      obtain ⟨fn, tmps, assign, body, hy, hR⟩ := hy0
      have HR := Lib.hid hR
      clear hR
      gi_wp2
      refine HR.out.mono ?_
      rintro e W3 ⟨rfl, hJ3⟩
      gi_wp2
      go_roundw
      case rel => exact ⟨k + 1, (j : Int) - 1, HK.out, by have := HZ.out; omega, by go_num, Lib.hid hJ3⟩
      case measure => simp [RowKit.intOf]
    · have hz1 : z = -1 := by omega
      obtain rfl := hz1
      have HE : Hid (EndB N k wr) := Lib.hid (by unfold EndB; omega)
      clear hz hv
      gi_wp2
      go_end0
      exact ⟨⟨_, rfl⟩, k, HS.out, HE.out⟩
theorem backV_any (q : Option Addr) (n c : Nat) (w : World) : Calls Tryz.prog 82 #[.slice q n c] w fun e w' => e = .returned (.func (.func 108) #[] #[.pointer (some ⟨w.heap.size, 0, none⟩)]) ∧ w' = w.alloc (.cells #[.slice q n c] 30) := by
  have hmf : ∀ (fn : Fn) (first cap : Array Value) (w : World), (Instr.makeFunc fn first cap).run Tryz.prog w = .ok (.func fn first cap) w := fun _ _ _ _ => rfl
  go_enter Tryz.func82, Tryz.ntmps82
  go_wp2_with fail
  go_ret
  exact ⟨rfl, rfl⟩
end Go.Proofs.YthjjgpepgbfalaaGreatDoor
end
section
/-! The memory's blocks are none of a loop's. -/
set_option maxRecDepth 20000
set_option linter.unusedSimpArgs false
set_option linter.unusedVariables false
namespace Go.Proofs.YthjjgpepgbfalaaGreatDoor
open Go.RowKit Go.Shelf

theorem Hep.noturn {w : World} {g : Nat} {F : Nat → Prop} {m : Hm} (h : Hep w g F m) {k : Nat} (hk : F k) {o : Obj} (ho : w.heap[k]? = some o) : turns o = false := by
  obtain ⟨vr, mb, S, hp, rfl⟩ := h
  rcases hk with rfl | e | rfl | ⟨i, x, hx, hk⟩
  · rw [hp.hd] at ho; cases ho; rfl
  · obtain ⟨cur, hc⟩ := own_head hp.row e
    rw [hc] at ho; cases ho; rfl
  · obtain ⟨es, clock, hm⟩ := hp.nums.isMap
    rw [hm] at ho; cases ho; rfl
  · obtain ⟨c, _, hc⟩ := hp.pos hx
    rcases hk with rfl | e | e
    · rw [hc.hd] at ho; cases ho; rfl
    · obtain ⟨cur, hcur⟩ := own_head hc.vs e
      rw [hcur] at ho; cases ho; rfl
    · obtain ⟨cur, hcur⟩ := own_head hc.bs e
      rw [hcur] at ho; cases ho; rfl
theorem KeepsT.cells {B : Nat} {W : World} {b : Nat} {cs : Array Value} {t : TypeId} {fr : Nat × Nat} (hb : W.heap[b]? = some (.cells cs t fr)) {W' : World} (h : Only b W W') : KeepsT B W W' :=
  ⟨h.size, fun k o _ ho ht => (h.block k (Array.getElem?_eq_some_iff.1 ho).1 (fun e => by subst e; rw [hb] at ho; cases ho; cases ht)).trans ho⟩
/-- What a chain of n pairs of nothing makes. -/
def bzS (m : Hm) : Nat → Hm × (Int × Int)
  | 0 => (m, (0, 0))
  | i + 1 => (addM (bzS m i).1 (obP (0, 0) (bzS m i).2), addV (bzS m i).1 (obP (0, 0) (bzS m i).2))
theorem domV_zero : domV (0, 0) := ⟨⟨by decide, by decide⟩, ⟨by decide, by decide⟩⟩
/-- Amid the building. -/
structure BldJ (w W : World) (gh : Nat) (F : Nat → Prop) (m : Hm) (i B3 B6 B8 BS n c : Nat) (q : Option Addr) (l : List (Int × Int)) : Prop where
  hep : ∃ F', Hep W gh F' (bzS m i).1 ∧ Chp F F' w W ∧ ¬ F' B3 ∧ ¬ F' B6 ∧ ¬ F' B8 ∧ ¬ F' BS
  b3 : W.heap[B3]? = some (.cells #[.pointer (some ⟨gh, 0, none⟩)] 24 (0, 0))
  b6 : W.heap[B6]? = some (.cells #[.int .i64 0, .int .i64 0] 36 (0, 0))
  b8 : W.heap[B8]? = some (.cells #[.int .i64 (bzS m i).2.1, .int .i64 (bzS m i).2.2] 36 (0, 0))
  bs : W.heap[BS]? = some (.cells #[.slice q n c] 30 (0, 0))
  row : Vls W q n l
  dom : domV (bzS m i).2
  n : w.heap.size ≤ B3 ∧ w.heap.size ≤ B6 ∧ w.heap.size ≤ B8 ∧ w.heap.size ≤ BS ∧ B8 ≠ B3 ∧ B8 ≠ B6 ∧ B8 ≠ BS
section
variable {w W W2 : World} {gh : Nat} {F : Nat → Prop} {m : Hm} {i B3 B6 B8 BS n c : Nat} {q : Option Addr} {l : List (Int × Int)}
theorem BldJ.below (h : BldJ w W gh F m i B3 B6 B8 BS n c q l) (hb : Below W.heap.size W W2) : BldJ w W2 gh F m i B3 B6 B8 BS n c q l := by
  obtain ⟨F', h1, h2, h3⟩ := h.hep
  exact ⟨⟨F', h1.below hb, h2.trans (Chp.of_below hb), h3⟩, (hb.block _ (lt_of_block h.b3)).trans h.b3, (hb.block _ (lt_of_block h.b6)).trans h.b6, (hb.block _ (lt_of_block h.b8)).trans h.b8, (hb.block _ (lt_of_block h.bs)).trans h.bs, h.row.below hb, h.dom, h.n⟩
theorem BldJ.own {B : Nat} (hq : ∀ b o, q = some ⟨b, o, none⟩ → b < B) (hw : w.heap.size ≤ B) : OwnT B (fun (j : Nat) W => BldJ w W gh F m j B3 B6 B8 BS n c q l) := by
  rintro j W W' row h hg hr
  have hc : ∀ k (cs : Array Value) ty, W.heap[k]? = some (Obj.cells cs ty (0, 0)) → W'.heap[k]? = W.heap[k]? := fun k cs ty hk => hg.block k (lt_of_block hk) (fun e => by
    obtain ⟨_, o, ho, hcell⟩ := hr k e.symm
    rw [hk] at ho; cases ho; cases hcell)
  have hlow : ∀ k, k < B → k < W.heap.size → W'.heap[k]? = W.heap[k]? := fun k hk hs => hg.block k hs (fun e => by
    have := (hr k e.symm).1; omega)
  obtain ⟨F', h1, h2, h3⟩ := h.hep
  have hz := h2.size
  refine ⟨⟨F', h1.keep fun k hk => hg.block k (h1.lt k hk) fun e => ?_, ⟨hg.os.trans h2.os, hg.tape.trans h2.tape, hg.output.trans h2.output, Nat.le_trans hz hg.size, fun k hk hf => (hlow k (by omega) (by omega)).trans (h2.block k hk hf), h2.fresh⟩, h3⟩,
    (hc _ _ _ h.b3).trans h.b3, (hc _ _ _ h.b6).trans h.b6, (hc _ _ _ h.b8).trans h.b8, (hc _ _ _ h.bs).trans h.bs, h.row.keep fun b o e hl => hlow b (hq b o e) hl, h.dom, h.n⟩
  obtain ⟨_, o, ho, ht⟩ := hr k e.symm
  rw [h1.noturn hk ho] at ht; cases ht
theorem domV_add (m : Hm) (hm : m.Ok) (o : Ob) : domV (addV m o) := by
  unfold addV
  split
  · rename_i h0
    have hl : (gapH m.L : Int) ≤ 16384 := by
      have h1 := gapH_le m.L
      have h2 : m.L.length ≤ 16384 := Nat.le_trans hm.len hm.l1
      omega
    exact ⟨⟨by show (-9223372036854775808 : Int) ≤ 8; decide, by show (8 : Int) ≤ 9223372036854775807; decide⟩, ⟨by show (-9223372036854775808 : Int) ≤ (gapH m.L : Int); omega, by show (gapH m.L : Int) ≤ 9223372036854775807; omega⟩⟩
  · exact domV_zero
/-- One pair more. -/
theorem BldJ.step (h : BldJ w W gh F m i B3 B6 B8 BS n c q l) {F' F2 : Nat → Prop} (h1 : Hep W gh F' (bzS m i).1) (h2 : Chp F F' w W) (h3 : ¬ F' B3 ∧ ¬ F' B6 ∧ ¬ F' B8 ∧ ¬ F' BS) (hq : ∀ b o, q = some ⟨b, o, none⟩ → b < w.heap.size ∧ ¬ F b)
    (h4 : Hep W2 gh F2 (addM (bzS m i).1 (obP (0, 0) (bzS m i).2))) (h5 : Chp F' F2 W W2) :
    BldJ w ((W2.setCell ⟨B8, 0, none⟩ (.int .i64 (addV (bzS m i).1 (obP (0, 0) (bzS m i).2)).1)).setCell ⟨B8, 1, none⟩ (.int .i64 (addV (bzS m i).1 (obP (0, 0) (bzS m i).2)).2)) gh F m (i + 1) B3 B6 B8 BS n c q l := by
  have l3 := lt_of_block h.b3
  have l6 := lt_of_block h.b6
  have l8 := lt_of_block h.b8
  have ls := lt_of_block h.bs
  have r8 := (h5.block _ l8 h3.2.2.1).trans h.b8
  have ho := two_only W2 B8 (.int .i64 (addV (bzS m i).1 (obP (0, 0) (bzS m i).2)).1) (.int .i64 (addV (bzS m i).1 (obP (0, 0) (bzS m i).2)).2)
  have n8 : ¬ F2 B8 := h5.out l8 h3.2.2.1
  have hz := h5.size
  have hzw := h2.size
  have hcw := h2.trans h5
  have k3 := (h5.block _ l3 h3.1).trans h.b3
  have k6 := (h5.block _ l6 h3.2.1).trans h.b6
  have ks := (h5.block _ ls h3.2.2.2).trans h.bs
  have hrow : Vls W2 q n l := h.row.keep fun b o e hl => h5.block b hl (fun e2 => (h2.out (hq b o e).1 (hq b o e).2) e2)
  refine ⟨⟨F2, h4.keep fun k hk => ho.block k (h4.lt k hk) (fun e => n8 (e ▸ hk)), ⟨ho.os.trans hcw.os, ho.tape.trans hcw.tape, ho.output.trans hcw.output, Nat.le_trans hcw.size ho.size, fun k hk hf => (ho.block k (by omega) (by have := h.n.2.2.1; omega)).trans (hcw.block k hk hf), hcw.fresh⟩, h5.out l3 h3.1, h5.out l6 h3.2.1, n8, h5.out ls h3.2.2.2⟩, (ho.block _ (by omega) (fun e => h.n.2.2.2.2.1 e.symm)).trans k3, (ho.block _ (by omega) (fun e => h.n.2.2.2.2.2.1 e.symm)).trans k6, two_row _ _ _ _ _ _ _ r8, (ho.block _ (by omega) (fun e => h.n.2.2.2.2.2.2 e.symm)).trans ks, hrow.keep fun b o e hl => ho.block b hl (by have := (hq b o e).1; have := h.n.2.2.1; omega), domV_add _ h1.ok _, h.n⟩
theorem BldJ.done (h : BldJ w W gh F m i B3 B6 B8 BS n c q l) {D : Nat} (hD : W.heap[D]? = some (.deferred (some []))) (hw : w.heap.size ≤ D) (v v' : Value) (o' : Obj) :
    ((W.setCell ⟨B6, 0, none⟩ v).setCell ⟨B6, 1, none⟩ v').heap[D]? = some (.deferred (some [])) ∧
    (((W.setCell ⟨B6, 0, none⟩ v).setCell ⟨B6, 1, none⟩ v').putObj D o').heap[B6]? = some (.cells #[v, v'] 36 (0, 0)) ∧
    WentH F gh (bzS m i).1 w (((W.setCell ⟨B6, 0, none⟩ v).setCell ⟨B6, 1, none⟩ v').putObj D o') := by
  have hne : D ≠ B6 := fun e => by rw [e, h.b6] at hD; cases hD
  have ho := two_only W B6 v v'
  have r6 := two_row _ _ _ _ _ v v' h.b6
  have hD2 := (ho.block D (lt_of_block hD) hne).trans hD
  obtain ⟨F', e1, e2, e3⟩ := h.hep
  have nD : ¬ F' D := fun e => by have := e1.noturn e hD; cases this
  generalize (W.setCell ⟨B6, 0, none⟩ v).setCell ⟨B6, 1, none⟩ v' = W2 at *
  have hg := grownBy_putObj' W2 D o'
  have hk : ∀ k, k < W2.heap.size → k ≠ D → (W2.putObj D o').heap[k]? = W2.heap[k]? := fun k hk hn => World.putObj_heap_other hn
  refine ⟨hD2, (hk B6 (lt_of_block r6) (Ne.symm hne)).trans r6, F', e1.keep fun k hkk => ?_, ⟨hg.os.trans (ho.os.trans e2.os), hg.tape.trans (ho.tape.trans e2.tape), hg.output.trans (ho.output.trans e2.output), Nat.le_trans (Nat.le_trans e2.size ho.size) hg.size, fun k hkk hf => ?_, e2.fresh⟩⟩
  · have l1 := e1.lt k hkk
    exact (hk k (Nat.lt_of_lt_of_le l1 ho.size) (fun e => nD (e ▸ hkk))).trans (ho.block k l1 (fun e => e3.2.1 (e ▸ hkk)))
  · have l1 := Nat.lt_of_lt_of_le hkk e2.size
    exact (hk k (Nat.lt_of_lt_of_le l1 ho.size) (by omega)).trans ((ho.block k l1 (by have := h.n.2.1; omega)).trans (e2.block k hkk hf))
/-- A call that changes the memory keeps the loop's blocks. -/
theorem WentH.keepsT {w w' : World} {g B : Nat} {F F' : Nat → Prop} {m : Hm} (h : Hep w g F m) (hc : Chp F F' w w') : KeepsT B w w' :=
  ⟨hc.size, fun k o _ ho ht => (hc.block k (Array.getElem?_eq_some_iff.1 ho).1 (fun e => by have := h.noturn e ho; rw [ht] at this; cases this)).trans ho⟩
end
end Go.Proofs.YthjjgpepgbfalaaGreatDoor
end
section
/-! A region that draws its order, in a round of a range over a function: what serves outside serves inside. -/
set_option maxRecDepth 20000
set_option linter.unusedSimpArgs false
set_option linter.unusedVariables false
namespace Go.Proofs.YthjjgpepgbfalaaGreatDoor
open Go.RowKit

/-- No operation of a region is a defer. -/
def noDefer (ops : Array Oper) : Bool := ops.all fun o => match o.op with | .defer _ => false | _ => true
theorem noDefer_at {ops : Array Oper} (h : noDefer ops = true) {i : Nat} {o : Oper} (hi : ops[i]? = some o) : ∀ c, o.op ≠ .defer c := by
  intro c e
  unfold noDefer at h
  rw [Array.all_eq_true] at h
  obtain ⟨hlt, hi⟩ := Array.getElem?_eq_some_iff.1 hi
  have := h i hlt
  rw [hi, e] at this
  cases this
theorem op_round {P : Program} {o : Oper} {a : Act} {w : World} {K : Act → World → Prop} {Q : Exit → Act → World → Prop} (l n : Nat) (hd : ∀ c, o.op ≠ .defer c) (h : o.wp P a w K Q) : o.wpIn (Fence.wide.inRound l) n P a w K Q := by
  refine ⟨fun _ _ => trivial, ?_⟩
  rw [Oper.semAt_eq _ _ _ hd]
  unfold Oper.wp at h
  generalize (execOp a.eval o).run P w = r at *
  cases r with
  | ok x w' =>
    cases x with
    | value v => exact h
    | skip => exact h
    | defer d => exact h
    | enter f args => exact ⟨fun h => by simp [Fence.wide] at h, CallsIn.inRound l (callsIn_wide.2 h)⟩
    | row row args =>
      refine ⟨fun h => by simp [Fence.wide] at h, fun c cs hr => ?_⟩
      obtain ⟨v, w'', r, s⟩ := h c cs
      exact ⟨v, w'', r, stepsIn_wide.2 s⟩
    | round l f tmps assign body => exact h.elim
    | _ => exact h.elim
  | halt x w' =>
    cases x with
    | panic v => exact h
    | _ => exact h.elim
theorem any_round {P : Program} {md : Region.Mode} {ops : Array Oper} {Q : Exit → Act → World → Prop} (l n : Nat) (hd : noDefer ops = true) (hlo : ¬ LetsOut Q) : ∀ (fuel : Nat) (listed : Array Bool) (a : Act) (w : World), wpAny P md ops Q fuel listed a w → wpAnyIn (Fence.wide.inRound l) n P md ops Q fuel listed a w
  | 0, _, _, _, h => h
  | fuel + 1, listed, a, w, h => ⟨h.1, fun i hi => by
      have h1 := h.2 i hi
      unfold wpOp at h1
      unfold wpOpIn
      cases ho : ops[i]? with
      | none =>
        rw [ho] at h1
        exact any_round l n hd hlo fuel _ a w h1
      | some o =>
        rw [ho] at h1
        dsimp only at h1 ⊢
        split
        · rename_i hw
          rw [if_pos hw] at h1
          exact op_round l n (noDefer_at hd ho) (Oper.wp_mono (fun a' w' h' => any_round l n hd hlo fuel _ a' w' h') (h1.resolve_right fun h => hlo h.2))
        · rename_i hw
          rw [if_neg hw] at h1
          exact ⟨fun _ _ => trivial, any_round l n hd hlo fuel _ _ w h1⟩⟩
/-- A region in a round, held by S. -/
theorem region_round {P : Program} {id l n : Nat} {ops : Array Oper} {Q : Exit → Act → World → Prop} {a : Act} {w : World} (S : World → Prop) (hm : P.follows .mixedOrders = true) (hd : noDefer ops = true)
    (h : ∀ K : Act → World → Prop, (∀ a' w', Q .normal a' w' → K a' w') → wpAnyH P .any ops (fun e a' w' => e = .normal ∧ K a' w') S ops.size (Array.replicate ops.size false) a w.drew) : (Code.region id ops true).wpIn (Fence.wide.inRound l) n P Q a w := by
  have h1 := wpIn_region_any (F := Fence.wide.inRound l) (n := n) (id := id) hm (any_round l n hd (fun ⟨_, _, h⟩ => by cases h.1) _ _ _ _ (wpAny_of_held _ _ _ _ (h (fun a w => Q .normal a w) fun _ _ h => h)))
  exact wpIn_mono h1 fun e a w ⟨he, hk⟩ => by rw [he]; exact hk
/-- The same outside of rounds. -/
theorem region_plain {P : Program} {id : Nat} {ops : Array Oper} {Q : Exit → Act → World → Prop} {a : Act} {w : World} (S : World → Prop) (hm : P.follows .mixedOrders = true)
    (h : ∀ K : Act → World → Prop, (∀ a' w', Q .normal a' w' → K a' w') → wpAnyH P .any ops (fun e a' w' => e = .normal ∧ K a' w') S ops.size (Array.replicate ops.size false) a w.drew) : (Code.region id ops true).wp P Q a w := by
  refine Code.wp_mono ?_ (wp_region_held (S := S) hm (h (fun a w => Q .normal a w) fun _ _ h => h))
  rintro e a' w' ⟨rfl, hk⟩
  exact hk
section
variable {P : Program} {ops : Array Oper} {K : Act → World → Prop} {S : World → Prop} {i : Nat} {oi : Oper} {v : Value} {fuel : Nat} {listed : Array Bool} {a : Act} {w : World}
end
end Go.Proofs.YthjjgpepgbfalaaGreatDoor
end
