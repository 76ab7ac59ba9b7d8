/- TableDirs' walk: a set put into, and the row of truths. -/
import Derived.Test.YtamfkglkgfggaaaRDec2
import Derived.Test.YtamfkglkgfggaaaWith
set_option linter.unusedSimpArgs false
namespace Go.Proofs.Ytamfkglkgfggaaa
open Go.ChangeShapes Go.WideShapes Go.ChangeAt Go.RowKit
theorem bvs_false (n : Nat) : bvs (fun _ => false) n = List.replicate n (.bool false) := by
  unfold bvs
  apply List.ext_getElem?
  intro i
  rw [List.getElem?_map, List.getElem?_replicate]
  by_cases h : i < n
  · rw [List.getElem?_range h, if_pos h]; rfl
  · rw [List.getElem?_eq_none (by simpa using h), if_neg h]; rfl
theorem falses_of (n : Nat) : (madeCells #[Value.bool false] n).toList = bvs (fun _ => false) n := by
  rw [toList_madeCells_one, bvs_false]
/-- The state amid the law's steps. -/
structure PR (w wr : World) (g b n : Nat) (p : Option Addr) (f : Nat → Bool) : Prop where
  hg : w.heap.size ≤ g
  hb : w.heap.size ≤ b
  sat : Sat wr g b n f
  row : Bls wr p n f
  far : ∀ b2 o, p = some ⟨b2, o, none⟩ → b2 ≠ b
  below : Below w.heap.size w wr
theorem PR.start {w w1 w2 : World} {g b n c : Nat} (hg : w.heap.size ≤ g) (hb1 : w.heap.size ≤ b) (hS : Sat w1 g b n (fun _ => false)) (hb : Below w.heap.size w w1)
    (hown : w2.ownsRow 0 4 1 (.slice (some ⟨w1.heap.size, 0, none⟩) n c) n (bvs (fun _ => false) n)) (hg2 : Below w1.heap.size w1 w2) : PR w w2 g b n (some ⟨w1.heap.size, 0, none⟩) (fun _ => false) :=
  ⟨hg, hb1, hS.below hg2, Bls.of_own hown, fun b2 o e => by cases e; have := hS.blt; omega, hb.trans (hg2.mono hb.size)⟩
theorem PR.below2 {w wr wc : World} {g b n : Nat} {p : Option Addr} {f : Nat → Bool} (h : PR w wr g b n p f) (hb : Below wr.heap.size wr wc) : PR w wc g b n p f :=
  ⟨h.hg, h.hb, h.sat.below hb, h.row.below hb, h.far, h.below.trans (hb.mono h.below.size)⟩
/-- The law's own leaves' pages. -/
structure Box4 (w : World) (g : Nat) (x y z u : Int) : Prop where
  row : w.heap[g]? = some (.cells #[.int .i64 x, .int .i64 y, .int .i64 z, .int .i64 u] 48 (0, 0))
section
variable {w w' : World} {g : Nat} {x y z u : Int}
theorem Box4.c0 (h : Box4 w g x y z u) : w.cell? ⟨g, 0, none⟩ = some (.int .i64 x) := by rw [cell_of_row _ _ _ _ _ _ h.row]; rfl
theorem Box4.c1 (h : Box4 w g x y z u) : w.cell? ⟨g, 1, none⟩ = some (.int .i64 y) := by rw [cell_of_row _ _ _ _ _ _ h.row]; rfl
theorem Box4.c2 (h : Box4 w g x y z u) : w.cell? ⟨g, 2, none⟩ = some (.int .i64 z) := by rw [cell_of_row _ _ _ _ _ _ h.row]; rfl
theorem Box4.c3 (h : Box4 w g x y z u) : w.cell? ⟨g, 3, none⟩ = some (.int .i64 u) := by rw [cell_of_row _ _ _ _ _ _ h.row]; rfl
theorem Box4.below (h : Box4 w g x y z u) (hb : Below w.heap.size w w') : Box4 w' g x y z u := ⟨(hb.block g (lt_of_block h.row)).trans h.row⟩
end
theorem eqIn_row (t n : Nat) (hu : Try.prog.underlying t = some (.array n 3)) (f g : Nat → Nat) (a b : Nat) (w : World) :
    (Op.equalIn 10000 t (.agg (ints f a n).toArray) (.agg (ints g b n).toArray)).run Try.prog w = .ok (sameN (fun i => f (a + i)) (fun i => g (b + i)) n) w := by
  obtain ⟨i0, hi, -⟩ := info_parts (show (Try.prog.info? 3).map (fun i => (i.zero, i.size, i.bytes)) = some (some (.int .i64 0), 1, 8) by kernel_rfl)
  rw [show (10000 : Nat) = 9998 + 1 + 1 from rfl, run_equalIn_array w (9998 + 1) _ _ hu hi, cellsOf3,
    run_items 9998 _ _ (fun i => f (a + i)) (fun i => g (b + i)) n (fun i hi => by simpa using ints_get f a n i hi) (fun i hi => by simpa using ints_get g b n i hi) w _ (fun i hi => List.mem_range.1 hi), all_iff]
  rfl
/-- What Encode's bytes are, and its errno. -/
def encL (x y z u : Int) (f : Nat → Bool) : List Nat := if okL x y z u = true then dirB x y z u f else []
def encE (x y z u : Int) : Int := if okL x y z u = true then 0 else 1
theorem encU (x y z u : Int) (gs bs : Nat) (f : Nat → Bool) (w : World) (hS : Sat w gs bs 512 f) :
    Calls Try.prog 22 #[.agg #[.int .i64 x, .int .i64 y, .int .i64 z, .int .i64 u, .pointer (some ⟨gs, 0, none⟩)]] w fun e w' =>
      (∃ p n c, e = .returned (.tuple #[.slice p n c, .int .i64 (encE x y z u)]) ∧ Bys w' p n (encL x y z u f) ∧ n ≤ c ∧ c ≤ 9223372036854775807) ∧ Below w.heap.size w w' := by
  refine (enc_any x y z u gs bs f w hS).mono ?_
  rintro e w' ⟨⟨h, p, c, rfl, hb, h1, h2⟩ | ⟨h, rfl⟩, hbl⟩
  · refine ⟨⟨p, 512, c, by unfold encE; rw [if_pos h], ?_, h1, h2⟩, hbl⟩
    unfold encL; rw [if_pos h]; exact hb
  · refine ⟨⟨none, 0, 0, by unfold encE; rw [h]; rfl, ?_, Nat.le_refl _, by omega⟩, hbl⟩
    unfold encL; rw [h]
    exact ⟨rfl, (by intro x hx; cases hx), fun h => absurd h (Nat.lt_irrefl 0)⟩
theorem rencU (x y z u : Int) (f : Nat → Bool) : rencV x y z u f = .tuple #[.string (strB (encL x y z u f)), .int .i64 (encE x y z u)] := by
  unfold rencV encL encE
  cases okL x y z u <;> rfl
/-- What a directory's decoding tells of the leaves. -/
def decV (n : Nat) (bs : List Nat) (i : Nat) : Nat := if dirE n bs = 0 then valB bs i else 0
theorem decU {w' : World} {n : Nat} {bs : List Nat} {e : Ending} (h : DecR w' n bs e) :
    ∃ v, e = .returned (.tuple #[.agg #[.int .i64 ((decV n bs 0 : Nat) : Int), .int .i64 ((decV n bs 1 : Nat) : Int), .int .i64 ((decV n bs 2 : Nat) : Int), .int .i64 ((decV n bs 3 : Nat) : Int), .pointer v], .int .i64 (dirE n bs)]) ∧
      ((dirE n bs = 0 ∧ ∃ g b, v = some ⟨g, 0, none⟩ ∧ Sat w' g b 512 (trs (dsB bs))) ∨ (dirE n bs ≠ 0 ∧ v = none)) := by
  unfold decV
  rcases h with ⟨h, g, b, rfl, hs⟩ | ⟨h, rfl⟩
  · exact ⟨some ⟨g, 0, none⟩, by rw [h]; rfl, .inl ⟨h, g, b, rfl, hs⟩⟩
  · exact ⟨none, by simp only [if_neg h]; rfl, .inr ⟨h, rfl⟩⟩
theorem rdecU {w' : World} {n : Nat} {bs : List Nat} {e : Ending} (h : RDecR w' n bs e) :
    ∃ p k c, e = .returned (.tuple #[.agg (rowA (decV n bs) 4), .slice p k c, .int .i64 (dirE n bs)]) ∧ (dirE n bs = 0 → k = 512 ∧ Bls w' p 512 (trs (dsB bs))) := by
  rcases h with ⟨h, p, c, rfl, hs⟩ | ⟨h, rfl⟩
  · refine ⟨p, 512, c, ?_, fun _ => ⟨rfl, hs⟩⟩
    rw [show rowA (decV n bs) 4 = rowA (valB bs) 4 from rowA_ext fun i _ => by unfold decV; rw [if_pos h], h]
  · refine ⟨none, 0, 0, ?_, fun h2 => absurd h2 h⟩
    rw [show rowA (decV n bs) 4 = rowA (fun _ => 0) 4 from rowA_ext fun i _ => by unfold decV; rw [if_neg h]]
end Go.Proofs.Ytamfkglkgfggaaa
