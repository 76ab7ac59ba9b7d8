/- Tokens by value, and a result that is a token and an error. -/
import Derived.Test.YtjpbbooeihdnfaaDoorLC3
import Derived.Laws.Rows
import Derived.Laws.Tables
import Derived.Deep.WholeRow
set_option maxRecDepth 20000
set_option linter.unusedSimpArgs false
namespace Go.Proofs.YtjpbbooeihdnfaaDoor
open Go.RowKit

theorem lt_of_block {w : World} {b : Nat} {o : Obj} (h : w.heap[b]? = some o) : b < w.heap.size := (Array.getElem?_eq_some_iff.1 h).1
theorem alloc_below (u : World) (o : Obj) : Below u.heap.size u (u.alloc o) := (Below.refl _ _).alloc (Nat.le_refl _) _
theorem sizeTok : (Tryd.prog.info? 30).map (·.size) = some 4 := by kernel_rfl
theorem zeroTok : (Tryd.prog.info? 30).map (fun i => (i.zero, i.size)) = some (some (.agg #[.int .i64 0, .int .i64 0, .string ⟨#[]⟩, .int .i64 0]), 4) := by kernel_rfl
/-- The cells of a token. -/
def tkC (t : Tk) (a : Int) : Array Value := #[.int .i64 (t.k : Int), .int .i64 t.n, .string ⟨t.s.toArray⟩, .int .i64 a]
theorem results_row_tmp {P : Program} {fn : Func} {p u : Tmp} {ty : TypeId} (h : fn.results = #[.cell p ty, .tmp u]) (tmps : Array Value) (w : World) (g : Nat) (t : TypeId) (cs : Array Value) (fr : Nat × Nat) (d : TypeDesc)
    (hp : tmps.getD p undef = .pointer (some ⟨g, 0, none⟩)) (hg : w.heap[g]? = some (.cells cs t fr))
    (hu : P.underlying ty = some d) (hd : (match d with | .struct _ | .array _ _ => true | _ => false) = true) (hi : (P.info? ty).map (·.size) = some cs.size) :
    (results fn tmps).run P w = .ok (.tuple #[.agg cs, tmps.getD u undef]) w := by
  rw [results_cell_tmp h, hp]
  simp [asAddr, run_loadVar_row w g t ty cs fr d hg hu hd hi]
theorem build0 (w : World) : (Instr.build 30 #[]).run Tryd.prog w = .ok (.agg (tkC ⟨0, 0, []⟩ 0)) w := run_build w _ _ _ (by kernel_rfl)
theorem buildK (k : Int) (w : World) : (Instr.build 30 #[(0, .int .i64 k)]).run Tryd.prog w = .ok (.agg #[.int .i64 k, .int .i64 0, .string ⟨#[]⟩, .int .i64 0]) w := run_build w _ _ _ (by kernel_rfl)
theorem buildKN (k n : Int) (w : World) : (Instr.build 30 #[(0, .int .i64 k), (1, .int .i64 n)]).run Tryd.prog w = .ok (.agg #[.int .i64 k, .int .i64 n, .string ⟨#[]⟩, .int .i64 0]) w := run_build w _ _ _ (by kernel_rfl)
theorem buildKS (k : Int) (S : ByteArray) (w : World) : (Instr.build 30 #[(0, .int .i64 k), (2, .string S)]).run Tryd.prog w = .ok (.agg #[.int .i64 k, .int .i64 0, .string S, .int .i64 0]) w := run_build w _ _ _ (by kernel_rfl)
/-- What one of the functions tells that ask what a word is. -/
def askV (t : Tk) (e : Int) : Value := .tuple #[.agg (tkC t 0), .int .i64 e]
theorem below_drewN {B : Nat} {w w' : World} (h : Below B w w') : ∀ n : Nat, Below B w (w'.drewN n)
  | 0 => h
  | n + 1 => (below_drewN h n).drew
theorem box_set {w : World} {b : Nat} {c0 c1 c2 c3 : Value} {t : TypeId} (h : w.heap[b]? = some (.cells #[c0, c1, c2, c3] t (0, 0))) (d0 d1 d2 d3 : Value) :
    ((((w.setCell ⟨b, 0, none⟩ d0).setCell ⟨b, 1, none⟩ d1).setCell ⟨b, 2, none⟩ d2).setCell ⟨b, 3, none⟩ d3).heap[b]? = some (.cells #[d0, d1, d2, d3] t (0, 0)) :=
  heap_setCell_same _ _ 3 _ _ _ (heap_setCell_same _ _ 2 _ _ _ (heap_setCell_same _ _ 1 _ _ _ (heap_setCell_same _ _ 0 _ _ _ h)))
theorem box_below {w w' : World} {B b : Nat} (h : Below B w w') (hB : B ≤ b) (d0 d1 d2 d3 : Value) :
    Below B w ((((w'.setCell ⟨b, 0, none⟩ d0).setCell ⟨b, 1, none⟩ d1).setCell ⟨b, 2, none⟩ d2).setCell ⟨b, 3, none⟩ d3) :=
  (((h.setCell (p := ⟨b, 0, none⟩) hB _).setCell (p := ⟨b, 1, none⟩) hB _).setCell (p := ⟨b, 2, none⟩) hB _).setCell (p := ⟨b, 3, none⟩) hB _
/-- A box of a token: its cells, and that they may be written. -/
structure Bx4 (w : World) (b : Nat) (cs : Array Value) : Prop where
  row : w.heap[b]? = some (.cells cs 30 (0, 0))
theorem Bx4.below {w w' : World} {b : Nat} {cs : Array Value} (h : Bx4 w b cs) (hb : Below w.heap.size w w') : Bx4 w' b cs := ⟨(hb.block b (lt_of_block h.row)).trans h.row⟩
theorem Bx4.new (w : World) (cs : Array Value) : Bx4 (w.alloc (.cells cs 30)) w.heap.size cs := ⟨heap_alloc_new _ _⟩
theorem Bx4.cells {w : World} {b : Nat} {c0 c1 c2 c3 : Value} (h : Bx4 w b #[c0, c1, c2, c3]) : (w.cell? ⟨b, 0, none⟩ = some c0 ∧ w.cell? ⟨b, 1, none⟩ = some c1 ∧ w.cell? ⟨b, 2, none⟩ = some c2 ∧ w.cell? ⟨b, 3, none⟩ = some c3) ∧
    (w.frozen? ⟨b, 0, none⟩ = false ∧ w.frozen? ⟨b, 1, none⟩ = false ∧ w.frozen? ⟨b, 2, none⟩ = false ∧ w.frozen? ⟨b, 3, none⟩ = false) := by
  have h0 := cell_of_row _ _ 0 _ _ _ h.row
  have h1 := cell_of_row _ _ 1 _ _ _ h.row
  have h2 := cell_of_row _ _ 2 _ _ _ h.row
  have h3 := cell_of_row _ _ 3 _ _ _ h.row
  simp at h0 h1 h2 h3
  exact ⟨⟨h0, h1, h2, h3⟩, frozen_of_row _ _ 0 _ _ h.row, frozen_of_row _ _ 1 _ _ h.row, frozen_of_row _ _ 2 _ _ h.row, frozen_of_row _ _ 3 _ _ h.row⟩
theorem Bx4.set {w : World} {b : Nat} {c0 c1 c2 c3 : Value} (h : Bx4 w b #[c0, c1, c2, c3]) (d0 d1 d2 d3 : Value) :
    Bx4 ((((w.setCell ⟨b, 0, none⟩ d0).setCell ⟨b, 1, none⟩ d1).setCell ⟨b, 2, none⟩ d2).setCell ⟨b, 3, none⟩ d3) b #[d0, d1, d2, d3] := ⟨box_set h.row _ _ _ _⟩
set_option maxHeartbeats 800000 in
theorem dot_any (S : ByteArray) (w : World) : Calls Tryd.prog 57 #[.string S] w fun e w' => e = .returned (if tl S = [46] then askV ⟨9, 0, []⟩ 0 else askV ⟨0, 0, []⟩ 5) ∧ Below w.heap.size w w' := by
  obtain ⟨hz, -⟩ := zero_of_info (P := Tryd.prog) zeroTok
  have e1 := eq_str S [46]
  have b0 := build0
  have b1 := buildK 9
  by_cases h : tl S = [46]
  · rw [decide_eq_true h] at e1
    rw [if_pos h]
    clear h
    go_enter Tryd.func57, Tryd.ntmps57
    go_wp2_with fail
    exact bodyPost_ret (results_row_tmp rfl _ _ w.heap.size 30 _ (0, 0) _ rfl (heap_alloc_new _ _) Tryd.underlying30 rfl sizeTok) rfl ⟨rfl, alloc_below _ _⟩
  · rw [decide_eq_false h] at e1
    rw [if_neg h]
    clear h
    go_enter Tryd.func57, Tryd.ntmps57
    go_wp2_with fail
    exact bodyPost_ret (results_row_tmp rfl _ _ w.heap.size 30 _ (0, 0) _ rfl (heap_alloc_new _ _) Tryd.underlying30 rfl sizeTok) rfl ⟨rfl, alloc_below _ _⟩
theorem eq_dec (L M : List UInt8) : decide (L = M) = true ↔ L = M := decide_eq_true_iff
set_option maxHeartbeats 800000 in
theorem truth_any (S : ByteArray) (w : World) : Calls Tryd.prog 59 #[.string S] w fun e w' => e = .returned (match boolO (tl S) with | some b => askV ⟨11, b, []⟩ 0 | none => askV ⟨0, 0, []⟩ 5) ∧ Below w.heap.size w w' := by
  obtain ⟨hz, -⟩ := zero_of_info (P := Tryd.prog) zeroTok
  have e1 := eq_str S [35, 116]
  have e2 := eq_str S [35, 116, 114, 117, 101]
  have e3 := eq_str S [35, 102]
  have e4 := eq_str S [35, 102, 97, 108, 115, 101]
  have b0 := build0
  have b1 := buildK 11
  have b2 := buildKN 11 1
  by_cases h1 : tl S = [35, 116]
  · have hb : boolO (tl S) = some 1 := by unfold boolO; rw [if_pos (.inl h1)]
    rw [hb]
    rw [decide_eq_true h1] at e1
    clear e2 e3 e4 h1 hb
    go_enter Tryd.func59, Tryd.ntmps59
    go_wp2_with fail
    exact bodyPost_ret (results_row_tmp rfl _ _ w.heap.size 30 _ (0, 0) _ rfl (heap_alloc_new _ _) Tryd.underlying30 rfl sizeTok) rfl ⟨rfl, alloc_below _ _⟩
  · rw [decide_eq_false h1] at e1
    by_cases h2 : tl S = [35, 116, 114, 117, 101]
    · have hb : boolO (tl S) = some 1 := by unfold boolO; rw [if_pos (.inr h2)]
      rw [hb]
      rw [decide_eq_true h2] at e2
      clear e3 e4 h1 h2 hb
      go_enter Tryd.func59, Tryd.ntmps59
      go_wp2_with fail
      exact bodyPost_ret (results_row_tmp rfl _ _ w.heap.size 30 _ (0, 0) _ rfl (heap_alloc_new _ _) Tryd.underlying30 rfl sizeTok) rfl ⟨rfl, alloc_below _ _⟩
    · rw [decide_eq_false h2] at e2
      by_cases h3 : tl S = [35, 102]
      · have hb : boolO (tl S) = some 0 := by unfold boolO; rw [if_neg (fun h => h.elim h1 h2), if_pos (.inl h3)]
        rw [hb]
        rw [decide_eq_true h3] at e3
        clear e4 h1 h2 h3 hb
        go_enter Tryd.func59, Tryd.ntmps59
        go_wp2_with fail
        exact bodyPost_ret (results_row_tmp rfl _ _ w.heap.size 30 _ (0, 0) _ rfl (heap_alloc_new _ _) Tryd.underlying30 rfl sizeTok) rfl ⟨rfl, alloc_below _ _⟩
      · rw [decide_eq_false h3] at e3
        by_cases h4 : tl S = [35, 102, 97, 108, 115, 101]
        · have hb : boolO (tl S) = some 0 := by unfold boolO; rw [if_neg (fun h => h.elim h1 h2), if_pos (.inr h4)]
          rw [hb]
          rw [decide_eq_true h4] at e4
          clear h1 h2 h3 h4 hb
          go_enter Tryd.func59, Tryd.ntmps59
          go_wp2_with fail
          exact bodyPost_ret (results_row_tmp rfl _ _ w.heap.size 30 _ (0, 0) _ rfl (heap_alloc_new _ _) Tryd.underlying30 rfl sizeTok) rfl ⟨rfl, alloc_below _ _⟩
        · have hb : boolO (tl S) = none := by unfold boolO; rw [if_neg (fun h => h.elim h1 h2), if_neg (fun h => h.elim h3 h4)]
          rw [hb]
          rw [decide_eq_false h4] at e4
          clear h1 h2 h3 h4 hb
          go_enter Tryd.func59, Tryd.ntmps59
          go_wp2_with fail
          exact bodyPost_ret (results_row_tmp rfl _ _ w.heap.size 30 _ (0, 0) _ rfl (heap_alloc_new _ _) Tryd.underlying30 rfl sizeTok) rfl ⟨rfl, alloc_below _ _⟩
end Go.Proofs.YtjpbbooeihdnfaaDoor
