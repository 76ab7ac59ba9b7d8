/- One step of the law, on a table and on a row of the document's. -/
import Derived.Test.YtamfkglkgfggaaaLives
set_option linter.unusedSimpArgs false
namespace Go.Proofs.Ytamfkglkgfggaaa
open Go.RowKit

theorem results_row_tmp {P : Program} {fn : Func} {p u : Tmp} {ty : TypeId} (h : fn.results = #[.cell p ty, .tmp u]) (tmps : Array Value) (w : World) (g : Nat) (t : TypeId) (cs : Array Value) (fr : Nat × Nat) (d : TypeDesc)
    (hp : tmps.getD p undef = .pointer (some ⟨g, 0, none⟩)) (hg : w.heap[g]? = some (.cells cs t fr))
    (hu : P.underlying ty = some d) (hd : (match d with | .struct _ | .array _ _ => true | _ => false) = true) (hi : (P.info? ty).map (·.size) = some cs.size) :
    (results fn tmps).run P w = .ok (.tuple #[.agg cs, tmps.getD u undef]) w := by
  rw [results_cell_tmp h, hp]
  simp [asAddr, run_loadVar_row w g t ty cs fr d hg hu hd hi]
theorem Only.then {g B : Nat} {a b c : World} (h : Only g a b) (hb : Below B b c) (hB : a.heap.size ≤ B) : Only g a c :=
  ⟨hb.os.trans h.os, hb.tape.trans h.tape, hb.output.trans h.output, Nat.le_trans h.size hb.size, fun k hk hg => (hb.block k (by omega)).trans (h.block k hk hg)⟩
/-- What a step leaves. -/
def stepF (f : Nat → Nat) (K L P : Int) : Nat → Nat :=
  if K = 0 then (if (0 ≤ L ∧ L < 512) ∧ pgI P = true then updN f L.toNat P.toNat else f) else if K = 1 then dropT f L else f
/-- Amid a step: the row, the op, the answer. -/
structure SS (B : Nat) (F : Nat → Nat) (L : Int) (w' : World) : Prop where
  row : IsT w' B 25 F 512
  cl : w'.cell? ⟨B + 1, 1, none⟩ = some (.int .i64 L)
  out : IsT w' (B + 2) 25 (fun _ => 0) 512
theorem SS.only {B g : Nat} {F : Nat → Nat} {L : Int} {w w' : World} (h : SS B F L w) (ho : Only g w w') (hg : g < B) : SS B F L w' :=
  ⟨h.row.only ho (by omega), (World.cell?_of_block (ho.block (B + 1) (World.block_lt_of_cell? w _ h.cl) (by omega))).trans h.cl, h.out.only ho (by omega)⟩
theorem SS.drew {B : Nat} {F : Nat → Nat} {L : Int} {w : World} (h : SS B F L w) : SS B F L w.drew := ⟨h.row, h.cl, h.out⟩
theorem SS.range {B : Nat} {F : Nat → Nat} {L : Int} {w : World} (h : SS B F L w) : w.rangeAt B 0 (ints F 0 512) := h.row.range 0 512 (by omega)
theorem below_row {B g : Nat} {w0 w : World} (hb : Below B w0 w) (hBg : B ≤ g) (cs : Array Value) : Below B w0 (w.setRow g cs) :=
  hb.trans ⟨rfl, rfl, rfl, by simp [World.setRow], fun k hk => setRow_other w g k cs (by omega)⟩
/-- The op's boxes, and the worlds before a step's work. -/
structure Ent (w w' : World) (B g : Nat) (f : Nat → Nat) (K L P : Int) : Prop where
  ss : SS B f L w'
  ck : w'.cell? ⟨B + 1, 0, none⟩ = some (.int .i64 K)
  cp : w'.cell? ⟨B + 1, 2, none⟩ = some (.int .i64 P)
  tab : Tab w' g f
  bel : Below B w w'
  lt : g < B
/-- Amid a region: the row, the op. -/
structure SR (B : Nat) (F : Nat → Nat) (L : Int) (w' : World) : Prop where
  row : IsT w' B 25 F 512
  cl : w'.cell? ⟨B + 1, 1, none⟩ = some (.int .i64 L)
theorem SS.sr {B : Nat} {F : Nat → Nat} {L : Int} {w : World} (h : SS B F L w) : SR B F L w := ⟨h.row, h.cl⟩
theorem SR.only {B g : Nat} {F : Nat → Nat} {L : Int} {w w' : World} (h : SR B F L w) (ho : Only g w w') (hg : g < B) : SR B F L w' :=
  ⟨h.row.only ho (by omega), (World.cell?_of_block (ho.block (B + 1) (World.block_lt_of_cell? w _ h.cl) (by omega))).trans h.cl⟩
theorem SR.range {B : Nat} {F : Nat → Nat} {L : Int} {w : World} (h : SR B F L w) : w.rangeAt B 0 (ints F 0 512) := h.row.range 0 512 (by omega)
theorem SR.setRow {B : Nat} {F : Nat → Nat} {L : Int} {w : World} (h : SR B F L w) (cs : Array Value) : SR B F L (w.setRow (B + 2) cs) :=
  ⟨h.row.same (setRow_other w (B + 2) B cs (by omega)), (World.cell?_of_block (setRow_other w (B + 2) (B + 1) cs (by omega))).trans h.cl⟩
theorem ent_made {w : World} {g : Nat} {f : Nat → Nat} (h : Tab w g f) (K L P : Int) :
    Ent w (((w.alloc (.cells (rowA f 512) 25)).alloc (.cells #[.int .i64 K, .int .i64 L, .int .i64 P] 74)).alloc (.cells (rowA (fun _ => 0) 512) 25)) w.heap.size g f K L P := by
  have b1 : Below (w.alloc (.cells (rowA f 512) 25)).heap.size (w.alloc (.cells (rowA f 512) 25)) ((w.alloc (.cells (rowA f 512) 25)).alloc (.cells #[.int .i64 K, .int .i64 L, .int .i64 P] 74)) := (Below.refl _ _).alloc (Nat.le_refl _) _
  have b2 := (Below.refl ((w.alloc (.cells (rowA f 512) 25)).alloc (.cells #[.int .i64 K, .int .i64 L, .int .i64 P] 74)).heap.size ((w.alloc (.cells (rowA f 512) 25)).alloc (.cells #[.int .i64 K, .int .i64 L, .int .i64 P] 74))).alloc (Nat.le_refl _) (.cells (rowA (fun _ => 0) 512) 25)
  have b3 : Below w.heap.size w (((w.alloc (.cells (rowA f 512) 25)).alloc (.cells #[.int .i64 K, .int .i64 L, .int .i64 P] 74)).alloc (.cells (rowA (fun _ => 0) 512) 25)) :=
    (((Below.refl _ _).alloc (Nat.le_refl _) _).alloc (by simp) _).alloc (by simp; omega) _
  have h1 : IsT (w.alloc (.cells (rowA f 512) 25)) w.heap.size 25 f 512 := heap_alloc_new w _
  have h2 : ((w.alloc (.cells (rowA f 512) 25)).alloc (.cells #[.int .i64 K, .int .i64 L, .int .i64 P] 74)).heap[w.heap.size + 1]? = some (.cells #[.int .i64 K, .int .i64 L, .int .i64 P] 74 (0, 0)) := by
    have := heap_alloc_new (w.alloc (.cells (rowA f 512) 25)) (.cells #[.int .i64 K, .int .i64 L, .int .i64 P] 74)
    rwa [show (w.alloc (.cells (rowA f 512) 25)).heap.size = w.heap.size + 1 by simp] at this
  have h3 := heap_alloc_new ((w.alloc (.cells (rowA f 512) 25)).alloc (.cells #[.int .i64 K, .int .i64 L, .int .i64 P] 74)) (.cells (rowA (fun _ => 0) 512) 25)
  rw [show ((w.alloc (.cells (rowA f 512) 25)).alloc (.cells #[.int .i64 K, .int .i64 L, .int .i64 P] 74)).heap.size = w.heap.size + 2 by simp] at h3
  have h2' := (b2.block (w.heap.size + 1) (by simp)).trans h2
  exact ⟨⟨(h1.below b1).below b2, by rw [cell_of_row _ _ _ _ _ _ h2']; rfl, h3⟩, by rw [cell_of_row _ _ _ _ _ _ h2']; rfl, by rw [cell_of_row _ _ _ _ _ _ h2']; rfl, h.below b3, b3, h.lt⟩
end Go.Proofs.Ytamfkglkgfggaaa
