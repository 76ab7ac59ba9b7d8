/- What Decode returns. -/
import Derived.Test.YtamfkglkgfggaaaREnc
set_option linter.unusedSimpArgs false
namespace Go.Proofs.Ytamfkglkgfggaaa
open Go.RowKit

/-- The set's bytes within a directory's. -/
def dsB (bs : List Nat) : List Nat := (bs.drop 16).take 64
/-- Why bytes are no directory's. -/
def dirE (n : Nat) (bs : List Nat) : Int := if wholeE n ≠ 0 then wholeE n else if okV (valB bs) 4 && allZ (bs.drop 80) 432 then 0 else 4
theorem dsB_len {bs : List Nat} (h : bs.length = 512) : (dsB bs).length = 64 := by unfold dsB; rw [List.length_take, List.length_drop]; omega
theorem ofE_dir {bs : List Nat} (h : bs.length = 512) (hd : ∀ x ∈ bs, x < 256) : ofE 512 (dsB bs) = 0 := by
  have hl := dsB_len h
  have hdd : ∀ x ∈ dsB bs, x < 256 := fun x hx => hd x (List.mem_of_mem_drop (List.mem_of_mem_take hx))
  have h1 : rowF (cut 512 (trs (dsB bs))) 64 = dsB bs := by
    rw [rowF_congr (g := trs (dsB bs)) (fun i hi => by unfold cut; rw [decide_eq_true (by omega), Bool.true_and])]
    exact rowF_trs hl hdd
  unfold ofE
  rw [if_neg (not_not_intro ⟨by omega, by omega⟩), hl, if_neg (by decide), if_neg (by decide)]
  exact if_pos h1
theorem results_dec {P : Program} {fn : Func} {p u : Tmp} {ty : TypeId} (h : fn.results = #[.cell p ty, .tmp u]) (tmps : Array Value) (w : World) (g : Nat) (t : TypeId) (cs : Array Value) (fr : Nat × Nat) (d : TypeDesc)
    (hp : tmps.getD p undef = .pointer (some ⟨g, 0, none⟩)) (hg : w.heap[g]? = some (.cells cs t fr))
    (hu : P.underlying ty = some d) (hd : (match d with | .struct _ | .array _ _ => true | _ => false) = true) (hi : (P.info? ty).map (·.size) = some cs.size) :
    (results fn tmps).run P w = .ok (.tuple #[.agg cs, tmps.getD u undef]) w := results_row_tmp h tmps w g t cs fr d hp hg hu hd hi
theorem size60 : (Try.prog.info? 60).map (·.size) = some 5 := by kernel_rfl
/-- What Decode tells. -/
def DecR (w' : World) (n : Nat) (bs : List Nat) (e : Ending) : Prop :=
  (dirE n bs = 0 ∧ ∃ g b, e = .returned (.tuple #[.agg #[.int .i64 ((valB bs 0 : Nat) : Int), .int .i64 ((valB bs 1 : Nat) : Int), .int .i64 ((valB bs 2 : Nat) : Int), .int .i64 ((valB bs 3 : Nat) : Int), .pointer (some ⟨g, 0, none⟩)], .int .i64 0]) ∧ Sat w' g b 512 (trs (dsB bs))) ∨
  (dirE n bs ≠ 0 ∧ e = .returned (.tuple #[.agg #[.int .i64 0, .int .i64 0, .int .i64 0, .int .i64 0, .pointer none], .int .i64 (dirE n bs)]))
theorem set5 {w : World} {g t : Nat} {a b c d e : Value} (v0 v1 v2 v3 v4 : Value) (h : w.heap[g]? = some (.cells #[a, b, c, d, e] t (0, 0))) :
    (((((w.setCell ⟨g, 0, none⟩ v0).setCell ⟨g, 1, none⟩ v1).setCell ⟨g, 2, none⟩ v2).setCell ⟨g, 3, none⟩ v3).setCell ⟨g, 4, none⟩ v4).heap[g]? = some (.cells #[v0, v1, v2, v3, v4] t (0, 0)) := by
  have h0 := heap_setCell_same w g 0 _ _ v0 h
  have h1 := heap_setCell_same _ g 1 _ _ v1 h0
  have h2 := heap_setCell_same _ g 2 _ _ v2 h1
  have h3 := heap_setCell_same _ g 3 _ _ v3 h2
  have h4 := heap_setCell_same _ g 4 _ _ v4 h3
  exact h4
theorem set4 {w : World} {g t : Nat} {a b c d e : Value} (v0 v1 v2 v3 : Value) (h : w.heap[g]? = some (.cells #[a, b, c, d, e] t (0, 0))) :
    (w.setCells g 0 [v0, v1, v2, v3]).heap[g]? = some (.cells #[v0, v1, v2, v3, e] t (0, 0)) := by
  have h0 := heap_setCell_same w g 0 _ _ v0 h
  have h1 := heap_setCell_same _ g 1 _ _ v1 h0
  have h2 := heap_setCell_same _ g 2 _ _ v2 h1
  have h3 := heap_setCell_same _ g 3 _ _ v3 h2
  exact h3
theorem below5 {w : World} {g n : Nat} (hg : n ≤ g) (v0 v1 v2 v3 v4 : Value) :
    Below n w (((((w.setCell ⟨g, 0, none⟩ v0).setCell ⟨g, 1, none⟩ v1).setCell ⟨g, 2, none⟩ v2).setCell ⟨g, 3, none⟩ v3).setCell ⟨g, 4, none⟩ v4) :=
  (((((Below.refl n w).setCell (p := ⟨g, 0, none⟩) hg v0).setCell (p := ⟨g, 1, none⟩) hg v1).setCell (p := ⟨g, 2, none⟩) hg v2).setCell (p := ⟨g, 3, none⟩) hg v3).setCell (p := ⟨g, 4, none⟩) hg v4
/-- A directory's five cells. -/
structure D5 (w : World) (g : Nat) (a b c d e : Value) : Prop where
  row : w.heap[g]? = some (.cells #[a, b, c, d, e] 60 (0, 0))
section
variable {w w' : World} {g : Nat} {a b c d e : Value}
theorem D5.c0 (h : D5 w g a b c d e) : w.cell? ⟨g, 0, none⟩ = some a := by rw [cell_of_row _ _ _ _ _ _ h.row]; rfl
theorem D5.c1 (h : D5 w g a b c d e) : w.cell? ⟨g, 1, none⟩ = some b := by rw [cell_of_row _ _ _ _ _ _ h.row]; rfl
theorem D5.c2 (h : D5 w g a b c d e) : w.cell? ⟨g, 2, none⟩ = some c := by rw [cell_of_row _ _ _ _ _ _ h.row]; rfl
theorem D5.c3 (h : D5 w g a b c d e) : w.cell? ⟨g, 3, none⟩ = some d := by rw [cell_of_row _ _ _ _ _ _ h.row]; rfl
theorem D5.c4 (h : D5 w g a b c d e) : w.cell? ⟨g, 4, none⟩ = some e := by rw [cell_of_row _ _ _ _ _ _ h.row]; rfl
theorem D5.fz (h : D5 w g a b c d e) (i : Nat) : w.frozen? ⟨g, i, none⟩ = false := frozen_of_row w g i _ _ h.row
theorem D5.below (h : D5 w g a b c d e) (hb : Below w.heap.size w w') : D5 w' g a b c d e := ⟨(hb.block g (lt_of_block h.row)).trans h.row⟩
theorem D5.only {k : Nat} (h : D5 w g a b c d e) (ho : Only k w w') (hk : g ≠ k) : D5 w' g a b c d e := ⟨(ho.block g (lt_of_block h.row) hk).trans h.row⟩
end
set_option maxRecDepth 100000 in
set_option maxHeartbeats 1600000 in
theorem dec_len (p : Option Addr) (n c : Nat) (bs : List Nat) (w : World) (hn : n ≤ 9223372036854775807) (hw : wholeE n ≠ 0) :
    Calls Try.prog 24 #[.slice p n c] w fun e w' => DecR w' n bs e ∧ Below w.heap.size w w' := by
  have HE : Hid (dirE n bs = wholeE n ∧ wholeE n ≠ 0) := Lib.hid ⟨by unfold dirE; rw [if_pos hw], hw⟩
  have HW := Lib.hid (fun w => whole_any p n c w hn)
  have hne : (wholeE n == 0) = false := by simpa using hw
  have HB : Hid (Below w.heap.size w (w.alloc (.cells #[.int .i64 0, .int .i64 0, .int .i64 0, .int .i64 0, .pointer none] 60))) := Lib.hid ((Below.refl _ _).alloc (Nat.le_refl _) _)
  have HH : Hid (D5 (w.alloc (.cells #[.int .i64 0, .int .i64 0, .int .i64 0, .int .i64 0, .pointer none] 60)) w.heap.size (.int .i64 0) (.int .i64 0) (.int .i64 0) (.int .i64 0) (.pointer none)) := Lib.hid ⟨heap_alloc_new w _⟩
  have KI : Hid ((Try.prog.info? 60).map (·.size) = some (#[Value.int .i64 0, .int .i64 0, .int .i64 0, .int .i64 0, .pointer none] : Array Value).size) := Lib.hid size60
  clear hw hn
  go_enter Try.func24, Try.ntmps24
  go_upto_region 1 with fail
  generalize w.alloc _ = W at *
  generalize hz : wholeE n = z at *
  have HZ := Lib.hid hz
  clear hz
  have r0 := HH.out.c0
  have r1 := HH.out.c1
  have r2 := HH.out.c2
  have r3 := HH.out.c3
  have r4 := HH.out.c4
  have f0 := HH.out.fz 0
  have f1 := HH.out.fz 1
  have f2 := HH.out.fz 2
  have f3 := HH.out.fz 3
  have f4 := HH.out.fz 4
  go_wp2_with (go_at_call 39; refine (HW.out _).mono ?_; rintro e w7 ⟨rfl, rfl⟩)
  refine bodyPost_ret (results_dec Try.results24 _ _ w.heap.size 60 _ (0, 0) _ rfl (set5 _ _ _ _ _ HH.out.row) Try.underlying60 rfl KI.out) rfl ?_
  exact ⟨.inr ⟨by rw [HE.out.1]; exact HE.out.2, by rw [HE.out.1]; rfl⟩, HB.out.trans (below5 (Nat.le_refl _) _ _ _ _ _)⟩
end Go.Proofs.Ytamfkglkgfggaaa
