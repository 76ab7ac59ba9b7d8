/- What the walk over all pages stands on. -/
import Derived.Test.YtamfkglkgfggaaaLaw
set_option linter.unusedSimpArgs false
namespace Go.Proofs.Ytamfkglkgfggaaa
open Go.RowKit Go.Shelf
attribute [local go_sem] Oper.semAt_some

theorem wpListIn_load_rowG {F : Fence} {n : Nat} {P : Program} {ops : Array Oper} {rest : List Oper} {o : Oper} {a : Act} {w : World} {Q : Exit → Act → World → Prop} (hgd : Region.wanted o (yielded ops a.tmps) = true) (ty : TypeId) (x : Operand) (ho : o.op = .load ty x)
    (g : Nat) (hx : a.eval x = .pointer (some ⟨g, 0, none⟩)) (t : TypeId) (cs : Array Value) (fr : Nat × Nat) (d : TypeDesc) (hg : w.heap[g]? = some (.cells cs t fr))
    (hu : P.underlying ty = some d) (hd : (match d with | .struct _ | .array _ _ => true | _ => false) = true) (hi : (P.info? ty).map (·.size) = some cs.size)
    (h : wpListIn F n P ops Q rest (a.put o.dst (.agg cs)) w) : wpListIn F n P ops Q (o :: rest) a w := by
  refine BigFrame.wpListIn_want hgd fun K hK => ?_
  unfold Oper.wpIn
  refine ⟨?_, ?_⟩
  · simp [Oper.about, ho]
  · rw [Oper.semAt_plain F _ _ (by rw [ho]; intro c hc; cases hc)]
    unfold execOp
    simp only [ho, hx, Instr.loadAt, Instr.sureAddr, Sem.run_bind, Sem.run_pure, Result.andThen_ok, run_loadVar_row w g t ty cs fr d hg hu hd hi]
    exact hK _ _ h
theorem wpListIn_store_row {F : Fence} {n : Nat} {P : Program} {ops : Array Oper} {rest : List Oper} {o : Oper} {a : Act} {w : World} {Q : Exit → Act → World → Prop} (hgd : o.guard = none) (ty : TypeId) (x y : Operand) (ho : o.op = .store ty x y)
    (g : Nat) (cells : Array Value) (hx : a.eval x = .pointer (some ⟨g, 0, none⟩)) (hy : a.eval y = .agg cells)
    (t : TypeId) (old : Array Value) (hg : w.heap[g]? = some (.cells old t (0, 0))) (hi : (P.info? ty).map (·.size) = some cells.size)
    (hold : old.size = cells.size) (h1 : cells.all (·.oneCell') = true)
    (h : wpListIn F n P ops Q rest (a.put o.dst undef) (w.setRow g cells)) : wpListIn F n P ops Q (o :: rest) a w := by
  refine wpListIn_plain hgd fun K hK => ?_
  unfold Oper.wpIn
  refine ⟨?_, ?_⟩
  · simp [Oper.about, ho]
  · rw [Oper.semAt_plain F _ _ (by rw [ho]; intro c hc; cases hc)]
    unfold execOp
    simp only [ho, hx, hy, Instr.storeAt, Instr.sureAddr, Sem.run_bind, Sem.run_pure, Result.andThen_ok, run_storeVar_row w g t ty old cells hg hi hold h1]
    exact hK _ _ h

theorem run_equalIn_func_nil (w : World) (d : Nat) (t : TypeId) (s : TypeDesc) (h : Try.prog.underlying t = some s) (hs : ∃ x y z, s = .func x y z) (k : Nat) (caps : Array Value) :
    (Op.equalIn (d + 1) t (.func (.func k) #[] caps) .nilFunc).run Try.prog w = .ok false w := by
  obtain ⟨x, y, z, rfl⟩ := hs
  simp [Op.equalIn, run_underlying h]
theorem eql_nil30 (w : World) (k : Nat) (caps : Array Value) : (binOp .eql 30 (.func (.func k) #[] caps) .nilFunc).run Try.prog w = .ok (.bool false) w := by
  simp only [binOp]
  simp [Op.equal, Op.maxDepth, run_equalIn_func_nil w 9999 30 _ Try.underlying30 ⟨_, _, _, rfl⟩ k caps]
/-- What the law's body gathers: is all right so far, and the last page. -/
def sF (f : Nat → Nat) (pre : List Nat) : Bool × Int := pre.foldl (fun (s : Bool × Int) (x : Nat) => (s.1 && decide (s.2 < (x : Int)) && decide (x < 512) && !(f x == 0), (x : Int))) (true, -1)
theorem sF_snoc (f : Nat → Nat) (pre : List Nat) (x : Nat) : sF f (pre ++ [x]) = ((sF f pre).1 && decide ((sF f pre).2 < (x : Int)) && decide (x < 512) && !(f x == 0), (x : Int)) := by
  unfold sF; rw [List.foldl_append]; rfl
theorem sF_mems (f : Nat → Nat) (n : Nat) (hn : n ≤ 512) : (sF f (mems (told f) n)).1 = true ∧ (sF f (mems (told f) n)).2 < (n : Int) := by
  induction n with
  | zero => exact ⟨rfl, show (-1 : Int) < 0 by decide⟩
  | succ n ih =>
    obtain ⟨h1, h2⟩ := ih (by omega)
    cases ht : told f n with
    | false => rw [mems_miss ht]; exact ⟨h1, by omega⟩
    | true =>
      rw [mems_hit ht, sF_snoc, h1, decide_eq_true h2, decide_eq_true (show n < 512 by omega)]
      exact ⟨by unfold told at ht; rw [ht]; rfl, by show (n : Int) < ((n + 1 : Nat) : Int); omega⟩
/-- What lay below a place, but for three blocks, lies as it lay. -/
structure But3 (n L : Nat) (w w' : World) : Prop where
  os : w'.os = w.os
  tape : w'.tape = w.tape
  output : w'.output = w.output
  size : w.heap.size ≤ w'.heap.size
  block : ∀ k, k < n → k ≠ L → k ≠ L + 1 → k ≠ L + 2 → w'.heap[k]? = w.heap[k]?
theorem But3.refl (n L : Nat) (w : World) : But3 n L w w := ⟨rfl, rfl, rfl, Nat.le_refl _, fun _ _ _ _ _ => rfl⟩
theorem But3.trans {n L : Nat} {a b c : World} (h : But3 n L a b) (k : But3 n L b c) : But3 n L a c :=
  ⟨k.os.trans h.os, k.tape.trans h.tape, k.output.trans h.output, Nat.le_trans h.size k.size, fun i hi a b c => (k.block i hi a b c).trans (h.block i hi a b c)⟩
theorem But3.setCell {n L g : Nat} (hg : g = L ∨ g = L + 1 ∨ g = L + 2) (v : Value) (w : World) : But3 n L w (w.setCell ⟨g, 0, none⟩ v) :=
  have h := Only.setCell g 0 v w
  ⟨h.os, h.tape, h.output, h.size, fun k _ a b c => Below.heap_setCell w _ v k (fun e => by have : k = g := e; omega)⟩
theorem ownFrom_but3 {β : Type} {n L B : Nat} {w₀ : World} (hn : n ≤ B) (h0 : n ≤ w₀.heap.size) : OwnFrom B (fun (_ : β) W => But3 n L w₀ W) := fun s W W' row hs hg hr =>
  hs.trans ⟨hg.os, hg.tape, hg.output, hg.size, fun k hk _ _ _ => by
    rcases Nat.lt_or_ge k W.heap.size with h | h
    · exact hg.block k h (fun e => by have := (hr k e.symm).1; omega)
    · have := hs.size; omega⟩
theorem But3.below {n L : Nat} {w a b : World} (h : But3 n L a b) (hb : Below w.heap.size w a) (hL : w.heap.size ≤ L) (hn : w.heap.size ≤ n) : Below w.heap.size w b :=
  ⟨h.os.trans hb.os, h.tape.trans hb.tape, h.output.trans hb.output, Nat.le_trans hb.size h.size, fun k hk => (h.block k (by omega) (by omega) (by omega) (by omega)).trans (hb.block k hk)⟩
/-- The three boxes. -/
structure Bx3 (L : Nat) (f : Nat → Nat) (pre : List Nat) (W : World) : Prop where
  b1 : Boxed W L 3 (.int .i64 (sF f pre).2)
  b2 : Boxed W (L + 1) 3 (.int .i64 (pre.length : Int))
  b3 : Boxed W (L + 2) 4 (.bool (sF f pre).1)
theorem Bx3.own (L : Nat) (f : Nat → Nat) : Own (fun (pre : List Nat) W => Bx3 L f pre W) := fun s W W' row hs hg hr =>
  ⟨boxed_own L 3 (fun pre => .int .i64 (sF f pre).2) s W W' row hs.b1 hg hr, boxed_own (L + 1) 3 (fun pre : List Nat => .int .i64 (pre.length : Int)) s W W' row hs.b2 hg hr, boxed_own (L + 2) 4 (fun pre => .bool (sF f pre).1) s W W' row hs.b3 hg hr⟩
end Go.Proofs.Ytamfkglkgfggaaa
