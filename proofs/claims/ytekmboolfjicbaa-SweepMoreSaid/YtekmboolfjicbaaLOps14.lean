/- The law's steps as they lie; light. -/
import Derived.Test.YtekmboolfjicbaaLJt
import Derived.Test.YtekmboolfjicbaaGGra
import Derived.BigRegion
set_option maxRecDepth 20000
set_option linter.unusedSimpArgs false
set_option linter.unusedVariables false
namespace Go.Proofs.Ytekmboolfjicbaa
open Go.RowKit

/-- A step of the law. -/
structure Opv where
  kind : Int
  i : Int
  v : Int × Int
  x : Int × Int
  q : Option Addr
  n : Nat
  c : Nat
  p : Option Addr
  d : Nat
  e : Nat
  o : Ob
/-- A step as it lies. -/
structure OpAt (w : World) (B a : Nat) (x : Opv) : Prop where
  c0 : w.cell? ⟨B, a, none⟩ = some (.int .i64 x.kind)
  c1 : w.cell? ⟨B, a + 1, none⟩ = some (.int .i64 x.i)
  c2 : w.cell? ⟨B, a + 2, none⟩ = some (.int .i64 x.v.1)
  c3 : w.cell? ⟨B, a + 3, none⟩ = some (.int .i64 x.v.2)
  c4 : w.cell? ⟨B, a + 4, none⟩ = some (.int .i64 x.x.1)
  c5 : w.cell? ⟨B, a + 5, none⟩ = some (.int .i64 x.x.2)
  c6 : w.cell? ⟨B, a + 6, none⟩ = some (.int .i64 x.o.k)
  c7 : w.cell? ⟨B, a + 7, none⟩ = some (.slice x.q x.n x.c)
  c8 : w.cell? ⟨B, a + 8, none⟩ = some (.slice x.p x.d x.e)
  o : ObV w x.q x.n x.p x.d x.o
  hq : x.q = none → x.c = 0
  hp : x.p = none → x.e = 0
  hv : I64 x.v.1 ∧ I64 x.v.2
  hx : I64 x.x.1 ∧ I64 x.x.2
theorem OpAt.below {w w' : World} {B a : Nat} {x : Opv} (h : OpAt w B a x) (hb : Below w.heap.size w w') : OpAt w' B a x :=
  ⟨(hb.cell (World.block_lt_of_cell? w _ h.c0)).trans h.c0, (hb.cell (World.block_lt_of_cell? w _ h.c1)).trans h.c1, (hb.cell (World.block_lt_of_cell? w _ h.c2)).trans h.c2, (hb.cell (World.block_lt_of_cell? w _ h.c3)).trans h.c3, (hb.cell (World.block_lt_of_cell? w _ h.c4)).trans h.c4, (hb.cell (World.block_lt_of_cell? w _ h.c5)).trans h.c5, (hb.cell (World.block_lt_of_cell? w _ h.c6)).trans h.c6, (hb.cell (World.block_lt_of_cell? w _ h.c7)).trans h.c7, (hb.cell (World.block_lt_of_cell? w _ h.c8)).trans h.c8, h.o.below hb, h.hq, h.hp, h.hv, h.hx⟩
/-- Steps in a slice. -/
def OpsIn (w : World) (q : Option Addr) (n : Nat) (f : Nat → Opv) : Prop := 0 < n → ∃ B a, q = some ⟨B, a, none⟩ ∧ ∀ i, i < n → OpAt w B (a + i * 9) (f i)
theorem OpsIn.below {w w' : World} {q : Option Addr} {n : Nat} {f : Nat → Opv} (h : OpsIn w q n f) (hb : Below w.heap.size w w') : OpsIn w' q n f := fun hn => by
  obtain ⟨B, a, e, h1⟩ := h hn
  exact ⟨B, a, e, fun i hi => (h1 i hi).below hb⟩
/-- Few steps, of small objects. -/
def lightM (f : Nat → Opv) (n : Nat) : Prop := n ≤ 50 ∧ ∀ i, i < n → (f i).n ≤ 300 ∧ (f i).d ≤ 5000
set_option maxHeartbeats 3200000 in
theorem light_any (q : Option Addr) (n c : Nat) (f : Nat → Opv) (w : World) (hn : n ≤ 9223372036854775807) (hO : OpsIn w q n f) (q2 : Option Addr) (n2 c2 : Nat) (hn2 : n2 ≤ 9223372036854775807) : Calls Try.prog 5 #[.slice q n c, .slice q2 n2 c2] w fun e w' => (∃ b, e = .returned (.bool b) ∧ (b = true → lightM f n ∧ n2 ≤ 50)) ∧ w = w' := by
  have HO := Lib.hid hO
  clear hO
  by_cases h50 : 50 < n
  · have d0 : decide (50 < n) = true := decide_eq_true h50
    have d1 : decide ((50 : Int) < (n : Int)) = true := by simp; omega
    go_enter Try.func5, Try.ntmps5
    go_wp2_with fail
    go_ret
    exact ⟨⟨false, rfl, fun h => by cases h⟩, rfl⟩
  have d0 : decide (50 < n) = false := decide_eq_false h50
  have d1 : decide ((50 : Int) < (n : Int)) = false := by simp; omega
  have hn50 : (n : Int) ≤ 50 := by omega
  have HN50 : Hid (n ≤ 50) := Lib.hid (by omega)
  clear h50
  by_cases h51 : 50 < n2
  · have e0 : decide (50 < n2) = true := decide_eq_true h51
    have e1 : decide ((50 : Int) < (n2 : Int)) = true := by simp; omega
    go_enter Try.func5, Try.ntmps5
    go_wp2_with fail
    go_ret
    exact ⟨⟨false, rfl, fun h => by cases h⟩, rfl⟩
  have d2 : decide (50 < n2) = false := decide_eq_false h51
  have d3 : decide ((50 : Int) < (n2 : Int)) = false := by simp; omega
  have HN51 : Hid (n2 ≤ 50) := Lib.hid (by omega)
  clear h51
  go_enter Try.func5, Try.ntmps5
  go_wp2_with fail
  go_loopw [5] (fun iv wr => ∃ i : Nat, i ≤ n ∧ iv = .int .i64 (i : Int) ∧ Hid (∀ j, j < i → (f j).n ≤ 300 ∧ (f j).d ≤ 5000) ∧ wr = w) (fun iv _ => n - (intOf iv).toNat)
  case atStart => exact ⟨0, by omega, by go_num, Lib.hid fun j hj => absurd hj (Nat.not_lt_zero j), rfl⟩
  case round =>
    obtain ⟨i, hi, rfl, HJ, rfl⟩ := hrel
    by_cases hlt : i < n
    · obtain ⟨B, a, rfl, hat⟩ := HO.out (by omega)
      have hx := hat i hlt
      have x7 := hx.c7
      have x8 := hx.c8
      have hnl := hx.o.nl
      have hdl := hx.o.dl
      have hin : (i : Int) < (n : Int) := by omega
      have HNX : Hid ((f i).n ≤ 300 → (f i).d ≤ 5000 → ∀ j, j < i + 1 → (f j).n ≤ 300 ∧ (f j).d ≤ 5000) := Lib.hid fun h1 h2 j hj => (Nat.lt_succ_iff_lt_or_eq.1 hj).elim (HJ.out j) (fun e => by rw [e]; exact ⟨h1, h2⟩)
      clear hat hx
      generalize (f i).n = fn at *
      generalize (f i).c = fc at *
      generalize (f i).q = fq at *
      generalize (f i).d = fd at *
      generalize (f i).e = fe at *
      generalize (f i).p = fp at *
      by_cases h3 : 300 < fn
      · have e0 : decide (300 < fn) = true := decide_eq_true h3
        have e1 : decide ((300 : Int) < (fn : Int)) = true := by simp; omega
        clear HNX h3
        go_wp2_with fail
        go_ret
        exact ⟨⟨false, rfl, fun h => by cases h⟩, rfl⟩
      · have e0 : decide (300 < fn) = false := decide_eq_false h3
        have e1 : decide ((300 : Int) < (fn : Int)) = false := by simp; omega
        by_cases h5 : 5000 < fd
        · have e2 : decide (5000 < fd) = true := decide_eq_true h5
          have e3 : decide ((5000 : Int) < (fd : Int)) = true := by simp; omega
          clear HNX h3 h5
          go_wp2_with fail
          go_ret
          exact ⟨⟨false, rfl, fun h => by cases h⟩, rfl⟩
        · have e2 : decide (5000 < fd) = false := decide_eq_false h5
          have e3 : decide ((5000 : Int) < (fd : Int)) = false := by simp; omega
          have HN2 := Lib.hid (HNX.out (by omega) (by omega))
          clear HNX h3 h5
          go_wp2_with fail
          go_roundw
          case rel => exact ⟨i + 1, by omega, by go_num, HN2, trivial⟩
          case measure => simp [intOf]; omega
    · obtain rfl : i = n := by omega
      have HL : Hid (lightM f i ∧ n2 ≤ 50) := Lib.hid ⟨⟨HN50.out, HJ.out⟩, HN51.out⟩
      go_wp2_with fail
      go_ret
      exact ⟨⟨true, rfl, fun _ => HL.out⟩, rfl⟩
end Go.Proofs.Ytekmboolfjicbaa
