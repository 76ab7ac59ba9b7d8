/- lives; ops in memory; light. -/
import Derived.Test.YthmajccajmnfcaaLNew
set_option maxRecDepth 20000
set_option linter.unusedSimpArgs false
namespace Go.Proofs.Ythmajccajmnfcaa
open Go.RowKit

/-- The chapter's pair. -/
def pairO : Ob := ⟨0, [(2, 1), (0, 0)], []⟩
theorem pair_may : addE (newM 3) pairO = 0 := by decide
theorem pair_L : (addM (newM 3) pairO).L = [some (newCl pairO)] := by
  unfold addM
  rw [if_pos pair_may]; rfl
theorem pair_here : Here (addM (newM 3) pairO).L := by
  intro i c hc
  rw [pair_L] at hc
  have hi := clAt_some hc
  have : i = 0 := by simp at hi; exact hi
  subst this
  have e : some (newCl pairO) = some c := hc
  cases e; rfl
set_option maxHeartbeats 1600000 in
theorem lives_any (w : World) : Calls Try.prog 6 #[] w fun e w' => e = .returned (.bool true) ∧ Below w.heap.size w w' := by
  have hn3 := new_any 3 (by decide) (by decide) w
  rw [show ((3 : Nat) : Int) = 3 from rfl] at hn3
  have HN := Lib.hid hn3
  clear hn3
  have HAD : Hid (∀ (w1 : World) g F b, Hep w1 g F (newM 3) → w1.heap[b]? = some (.cells #[.int .i64 2, .int .i64 1, .int .i64 0, .int .i64 0] 38 (0, 0)) → Calls Try.prog 8 #[.pointer (some ⟨g, 0, none⟩), .agg #[.int .i64 0, .slice (some ⟨b, 0, none⟩) 2 2, .slice none 0 0]] w1 fun e w' => e = .returned (.tuple #[.agg #[.int .i64 8, .int .i64 0], .int .i64 0]) ∧ WentH F g (addM (newM 3) pairO) w1 w') := Lib.hid (by
    intro w1 g F b hh hb
    obtain ⟨vr, mb, S, hp, rfl⟩ := hh
    have hv : Vls w1 (some ⟨b, 0, none⟩) 2 [(2, 1), (0, 0)] := ⟨rfl, fun _ => ⟨b, 0, rfl, fun i hi => by
      have c0 := cell_of_row w1 b 0 _ _ _ hb
      have c1 := cell_of_row w1 b 1 _ _ _ hb
      have c2 := cell_of_row w1 b 2 _ _ _ hb
      have c3 := cell_of_row w1 b 3 _ _ _ hb
      rcases (show i = 0 ∨ i = 1 by omega) with rfl | rfl
      · exact ⟨c0, c1⟩
      · exact ⟨c2, c3⟩⟩⟩
    have h := hp.add pairO (some ⟨b, 0, none⟩) none 2 2 0 0 ⟨hv, Bys.zero _ _, by intro x hx; unfold pairO at hx; simp at hx; rcases hx with rfl | rfl <;> exact ⟨⟨by decide, by decide⟩, ⟨by decide, by decide⟩⟩, by decide, by decide⟩ (by decide) (by decide)
    rw [pair_may, show addV (newM 3) pairO = (8, 0) from rfl] at h
    exact h)
  have HAT : Hid (∀ (w1 : World) g F, Hep w1 g F (addM (newM 3) pairO) → Calls Try.prog 29 #[.pointer (some ⟨g, 0, none⟩), .agg #[.int .i64 8, .int .i64 0], .int .i64 0] w1 fun e w' => e = .returned (.tuple #[.agg #[.int .i64 2, .int .i64 1], .int .i64 0]) ∧ Below w1.heap.size w1 w') := Lib.hid (by
    intro w1 g F hh
    obtain ⟨vr, mb, S, hp, rfl⟩ := hh
    have h := hp.atI pair_here 8 0 (by decide) (by decide) 0
    rw [pair_L] at h
    rw [show atV [some (newCl pairO)] (8, 0) 0 = (2, 1) from rfl, show atE [some (newCl pairO)] (8, 0) 0 = 0 from rfl] at h
    exact h)
  have hG := guardV
  have hE1 := fun u => eqlV (8, 0) (8, 0) u
  have hE2 := fun u => eqlV (2, 1) (2, 1) u
  go_enter Try.func6, Try.ntmps6
  go_upto_region 2 with (go_at_call 28; with_reducible refine HN.out.mono ?_; rintro e w1 ⟨g, F, rfl, hh, hF, hg, hb1⟩)
  have HH := Lib.hid (hh.below ((Below.refl w1.heap.size w1).alloc (Nat.le_refl _) (.cells #[.int .i64 2, .int .i64 1, .int .i64 0, .int .i64 0] 38)))
  have HHL := Lib.hid hh.lt
  have HB1 := Lib.hid hb1
  have HF := Lib.hid hF
  have HC2 := Lib.hid (HAD.out _ g F w1.heap.size HH.out (heap_alloc_new w1 _))
  clear hh hF hb1
  go_wp2_with fail
  with_reducible refine HC2.out.mono ?_
  rintro e w2 ⟨rfl, F2, hh2, hch⟩
  go_upto_region 3 with fail
  have hb2 : Below w.heap.size w w2 := hch.below (HB1.out.alloc HB1.out.size _) (by have := HB1.out.size; simp; omega) (fun k hk => HF.out k hk)
  have HH2 := Lib.hid (hh2.below ((Below.refl w2.heap.size w2).alloc (Nat.le_refl _) (.cells #[.int .i64 8, .int .i64 0] 38)))
  have HB2 := Lib.hid (hb2.alloc hb2.size (.cells #[.int .i64 8, .int .i64 0] 38))
  have hx2 := heap_alloc_new w2 (.cells #[.int .i64 8, .int .i64 0] 38)
  clear hh2 hch hb2
  have hsz : (w2.alloc (.cells #[.int .i64 8, .int .i64 0] 38)).heap.size = w2.heap.size + 1 := by simp
  generalize w2.alloc (.cells #[.int .i64 8, .int .i64 0] 38) = w3 at *
  have y0 := cell_of_row _ _ 0 _ _ _ hx2
  have y1 := cell_of_row _ _ 1 _ _ _ hx2
  simp at y0 y1
  go_upto_region 4 with (go_at_call 29; with_reducible refine (HAT.out _ _ _ HH2.out).mono ?_; rintro e w4 ⟨rfl, hb4⟩)
  have HB4 := Lib.hid ((HB2.out.trans (hb4.mono HB2.out.size)).alloc (HB2.out.trans (hb4.mono HB2.out.size)).size (.cells #[.int .i64 2, .int .i64 1] 38))
  have hx4 := heap_alloc_new w4 (.cells #[.int .i64 2, .int .i64 1] 38)
  have hx3 : (w4.alloc (.cells #[.int .i64 2, .int .i64 1] 38)).heap[w2.heap.size]? = _ := (heap_alloc_old _ _ (by have := hb4.size; omega)).trans ((hb4.block w2.heap.size (by omega)).trans hx2)
  generalize w4.alloc (.cells #[.int .i64 2, .int .i64 1] 38) = w5 at *
  have z0 := cell_of_row _ _ 0 _ _ _ hx3
  have z1 := cell_of_row _ _ 1 _ _ _ hx3
  have z2 := cell_of_row _ _ 0 _ _ _ hx4
  have z3 := cell_of_row _ _ 1 _ _ _ hx4
  simp at z0 z1 z2 z3
  clear y0 y1
  go_wp2_with fail
  go_ret
  exact ⟨rfl, HB4.out⟩
/-- A step of the law. -/
structure Opv where
  kind : Int
  i : Int
  v : Int × Int
  x : Int × Int
  b : Nat
  q : Option Addr
  n : Nat
  c : Nat
  p : Option Addr
  d : Nat
  e : Nat
  o : Ob
/-- A step as it lies. -/
structure OpAt (w : World) (B a : Nat) (x : Opv) : Prop where
  c0 : w.cell? ⟨B, a, none⟩ = some (.int .i64 x.kind)
  c1 : w.cell? ⟨B, a + 1, none⟩ = some (.int .i64 x.i)
  c2 : w.cell? ⟨B, a + 2, none⟩ = some (.int .i64 x.v.1)
  c3 : w.cell? ⟨B, a + 3, none⟩ = some (.int .i64 x.v.2)
  c4 : w.cell? ⟨B, a + 4, none⟩ = some (.int .i64 x.x.1)
  c5 : w.cell? ⟨B, a + 5, none⟩ = some (.int .i64 x.x.2)
  c6 : w.cell? ⟨B, a + 6, none⟩ = some (.int .u8 (x.b : Int))
  c7 : w.cell? ⟨B, a + 7, none⟩ = some (.int .i64 x.o.k)
  c8 : w.cell? ⟨B, a + 8, none⟩ = some (.slice x.q x.n x.c)
  c9 : w.cell? ⟨B, a + 9, none⟩ = some (.slice x.p x.d x.e)
  o : ObV w x.q x.n x.p x.d x.o
  hq : x.q = none → x.c = 0
  hp : x.p = none → x.e = 0
  hv : I64 x.v.2
  hx : I64 x.x.2
  hb : x.b < 256
theorem OpAt.below {w w' : World} {B a : Nat} {x : Opv} (h : OpAt w B a x) (hb : Below w.heap.size w w') : OpAt w' B a x :=
  ⟨(hb.cell (World.block_lt_of_cell? w _ h.c0)).trans h.c0, (hb.cell (World.block_lt_of_cell? w _ h.c1)).trans h.c1, (hb.cell (World.block_lt_of_cell? w _ h.c2)).trans h.c2, (hb.cell (World.block_lt_of_cell? w _ h.c3)).trans h.c3, (hb.cell (World.block_lt_of_cell? w _ h.c4)).trans h.c4, (hb.cell (World.block_lt_of_cell? w _ h.c5)).trans h.c5, (hb.cell (World.block_lt_of_cell? w _ h.c6)).trans h.c6, (hb.cell (World.block_lt_of_cell? w _ h.c7)).trans h.c7, (hb.cell (World.block_lt_of_cell? w _ h.c8)).trans h.c8, (hb.cell (World.block_lt_of_cell? w _ h.c9)).trans h.c9, h.o.below hb, h.hq, h.hp, h.hv, h.hx, h.hb⟩
/-- Steps in a slice. -/
def OpsIn (w : World) (q : Option Addr) (n : Nat) (f : Nat → Opv) : Prop := 0 < n → ∃ B a, q = some ⟨B, a, none⟩ ∧ ∀ i, i < n → OpAt w B (a + i * 10) (f i)
theorem OpsIn.below {w w' : World} {q : Option Addr} {n : Nat} {f : Nat → Opv} (h : OpsIn w q n f) (hb : Below w.heap.size w w') : OpsIn w' q n f := fun hn => by
  obtain ⟨B, a, e, h1⟩ := h hn
  exact ⟨B, a, e, fun i hi => (h1 i hi).below hb⟩
/-- Few steps, of small objects. -/
def lightM (f : Nat → Opv) (n : Nat) : Prop := n ≤ 50 ∧ ∀ i, i < n → (f i).n ≤ 300 ∧ (f i).d ≤ 5000
set_option maxHeartbeats 3200000 in
theorem light_any (q : Option Addr) (n c : Nat) (f : Nat → Opv) (w : World) (hn : n ≤ 9223372036854775807) (hO : OpsIn w q n f) : Calls Try.prog 5 #[.slice q n c] w fun e w' => (∃ b, e = .returned (.bool b) ∧ (b = true → lightM f n)) ∧ w = w' := by
  have HO := Lib.hid hO
  clear hO
  by_cases h50 : 50 < n
  · have d0 : decide (50 < n) = true := decide_eq_true h50
    have d1 : decide ((50 : Int) < (n : Int)) = true := by simp; omega
    go_enter Try.func5, Try.ntmps5
    go_wp2_with fail
    go_ret
    exact ⟨⟨false, rfl, fun h => by cases h⟩, rfl⟩
  have d0 : decide (50 < n) = false := decide_eq_false h50
  have d1 : decide ((50 : Int) < (n : Int)) = false := by simp; omega
  have hn50 : (n : Int) ≤ 50 := by omega
  have HN50 : Hid (n ≤ 50) := Lib.hid (by omega)
  clear h50
  go_enter Try.func5, Try.ntmps5
  go_wp2_with fail
  go_loopw [3] (fun iv wr => ∃ i : Nat, i ≤ n ∧ iv = .int .i64 (i : Int) ∧ Hid (∀ j, j < i → (f j).n ≤ 300 ∧ (f j).d ≤ 5000) ∧ wr = w) (fun iv _ => n - (intOf iv).toNat)
  case atStart => exact ⟨0, by omega, by go_num, Lib.hid fun j hj => absurd hj (Nat.not_lt_zero j), rfl⟩
  case round =>
    obtain ⟨i, hi, rfl, HJ, rfl⟩ := hrel
    by_cases hlt : i < n
    · obtain ⟨B, a, rfl, hat⟩ := HO.out (by omega)
      have hx := hat i hlt
      have x8 := hx.c8
      have x9 := hx.c9
      have hnl := hx.o.nl
      have hdl := hx.o.dl
      have hin : (i : Int) < (n : Int) := by omega
      have HNX : Hid ((f i).n ≤ 300 → (f i).d ≤ 5000 → ∀ j, j < i + 1 → (f j).n ≤ 300 ∧ (f j).d ≤ 5000) := Lib.hid fun h1 h2 j hj => (Nat.lt_succ_iff_lt_or_eq.1 hj).elim (HJ.out j) (fun e => by rw [e]; exact ⟨h1, h2⟩)
      clear hat hx
      generalize (f i).n = fn at *
      generalize (f i).c = fc at *
      generalize (f i).q = fq at *
      generalize (f i).d = fd at *
      generalize (f i).e = fe at *
      generalize (f i).p = fp at *
      by_cases h3 : 300 < fn
      · have e0 : decide (300 < fn) = true := decide_eq_true h3
        have e1 : decide ((300 : Int) < (fn : Int)) = true := by simp; omega
        clear HNX h3
        go_wp2_with fail
        go_ret
        exact ⟨⟨false, rfl, fun h => by cases h⟩, rfl⟩
      · have e0 : decide (300 < fn) = false := decide_eq_false h3
        have e1 : decide ((300 : Int) < (fn : Int)) = false := by simp; omega
        by_cases h5 : 5000 < fd
        · have e2 : decide (5000 < fd) = true := decide_eq_true h5
          have e3 : decide ((5000 : Int) < (fd : Int)) = true := by simp; omega
          clear HNX h3 h5
          go_wp2_with fail
          go_ret
          exact ⟨⟨false, rfl, fun h => by cases h⟩, rfl⟩
        · have e2 : decide (5000 < fd) = false := decide_eq_false h5
          have e3 : decide ((5000 : Int) < (fd : Int)) = false := by simp; omega
          have HN2 := Lib.hid (HNX.out (by omega) (by omega))
          clear HNX h3 h5
          go_wp2_with fail
          go_roundw
          case rel => exact ⟨i + 1, by omega, by go_num, HN2, trivial⟩
          case measure => simp [intOf]; omega
    · obtain rfl : i = n := by omega
      have HL : Hid (lightM f i) := Lib.hid ⟨HN50.out, HJ.out⟩
      go_wp2_with fail
      go_ret
      exact ⟨⟨true, rfl, fun _ => HL.out⟩, rfl⟩
end Go.Proofs.Ythmajccajmnfcaa
