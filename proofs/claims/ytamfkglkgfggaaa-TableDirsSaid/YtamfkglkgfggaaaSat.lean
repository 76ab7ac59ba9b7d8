/- A set in memory; what its small calls return. -/
import Derived.Test.YtamfkglkgfggaaaMdl
import Derived.Laws.Rows
import Derived.Deep.QuietTactic
import Derived.BigQuiet
import Derived.Deep.CutBlock
import Derived.Deep.DeepCutAuto
import Derived.Deep.RegionWith
import Derived.Deep.RegionHeld3
import Derived.Lib.SliceRun
import Derived.StillTailTactics
set_option linter.unusedSimpArgs false
namespace Go.Proofs.Ytamfkglkgfggaaa
open Go.RowKit

/-- Whatever lay in memory, but for one block, lies as it lay. -/
structure Only (g : Nat) (w w' : World) : Prop where
  os : w'.os = w.os
  tape : w'.tape = w.tape
  output : w'.output = w.output
  size : w.heap.size ≤ w'.heap.size
  block : ∀ k, k < w.heap.size → k ≠ g → w'.heap[k]? = w.heap[k]?
theorem Only.refl (g : Nat) (w : World) : Only g w w := ⟨rfl, rfl, rfl, Nat.le_refl _, fun _ _ _ => rfl⟩
theorem Only.trans {g : Nat} {a b c : World} (h : Only g a b) (k : Only g b c) : Only g a c :=
  ⟨k.os.trans h.os, k.tape.trans h.tape, k.output.trans h.output, Nat.le_trans h.size k.size, fun i hi hg => (k.block i (Nat.lt_of_lt_of_le hi h.size) hg).trans (h.block i hi hg)⟩
theorem Only.of_below {g : Nat} {w w' : World} (h : Below w.heap.size w w') : Only g w w' := ⟨h.os, h.tape, h.output, h.size, fun k hk _ => h.block k hk⟩
theorem Only.below {g B : Nat} {a w w' : World} (h : Only g w w') (hb : Below B a w) (hB : B ≤ w.heap.size) (hg : B ≤ g) : Below B a w' :=
  hb.trans ⟨h.os, h.tape, h.output, h.size, fun k hk => h.block k (by omega) (by omega)⟩
theorem Only.setCell (g i : Nat) (v : Value) (w : World) : Only g w (w.setCell ⟨g, i, none⟩ v) :=
  have h := (Below.refl 0 w).setCell (p := ⟨g, i, none⟩) (Nat.zero_le _) v
  ⟨h.os, h.tape, h.output, h.size, fun k _ hg => Below.heap_setCell w _ v k (fun e => hg (by rw [e]))⟩
theorem Only.drew {g : Nat} {w w' : World} (h : Only g w w') : Only g w w'.drew := ⟨h.os, h.tape, h.output, h.size, h.block⟩
theorem own_other {w w' : World} {base E m n : Nat} {v : Value} {xs : List Value} (h : w.ownsRow base E m v n xs) (hb : ∀ g, v.ownBlock = some g → w'.heap[g]? = w.heap[g]?) : w'.ownsRow base E m v n xs := by
  refine ⟨h.1, ?_⟩
  rcases h.2 with h2 | ⟨g, cap, cur, rfl, hb2, hg, hr⟩
  · exact .inl h2
  · exact .inr ⟨g, cap, cur, rfl, hb2, (hb g rfl).trans hg, hr⟩
/-- Bytes that lie in a row of the call's own. -/
def Row5 (w : World) (g N : Nat) (us : List Nat) : Prop := w.ownsRow 0 5 1 (.slice (some ⟨g, 0, none⟩) N N) N (u8s us)
theorem Row5.len {w : World} {g N : Nat} {us : List Nat} (h : Row5 w g N us) : us.length = N := by
  have := h.1; rw [u8s_len] at this; omega
theorem Row5.head {w : World} {g N : Nat} {us : List Nat} (h : Row5 w g N us) : ∃ cur, w.heap[g]? = some (.cells cur 5 (0, 0)) := by
  rcases h.2 with ⟨h, _⟩ | ⟨g', cap, cur, h, _, hh, _⟩
  · cases h
  · cases h; exact ⟨cur, hh⟩
theorem Row5.lt {w : World} {g N : Nat} {us : List Nat} (h : Row5 w g N us) : g < w.heap.size := by
  obtain ⟨cur, h⟩ := h.head
  exact lt_of_block h
theorem Row5.same {w w' : World} {g N : Nat} {us : List Nat} (h : Row5 w g N us) (hb : w'.heap[g]? = w.heap[g]?) : Row5 w' g N us :=
  own_other h fun k e => by simp [Value.ownBlock] at e; subst e; exact hb
theorem Row5.below {w w' : World} {g N : Nat} {us : List Nat} (h : Row5 w g N us) (hb : Below w.heap.size w w') : Row5 w' g N us := h.same (hb.block g h.lt)
theorem Row5.cell {w : World} {g N : Nat} {us : List Nat} (h : Row5 w g N us) (i : Nat) (hi : i < N) : w.cell? ⟨g, i, none⟩ = some (.int .u8 ((us.getD i 0 : Nat) : Int)) :=
  (World.ownsRow.cellAt h i (by omega)).trans (u8s_get us i (by rw [h.len]; exact hi))
theorem Row5.fz {w : World} {g N : Nat} {us : List Nat} (h : Row5 w g N us) (i : Nat) : w.frozen? ⟨g, i, none⟩ = false := World.ownsRow.frozenAt h i
theorem Row5.put {w : World} {g N : Nat} {us : List Nat} (h : Row5 w g N us) (i x : Nat) : Row5 (w.setCell ⟨g, i, none⟩ (.int .u8 (x : Int))) g N (us.set i x) := by
  have h2 := (World.ownsRow.stored h i (.int .u8 (x : Int))).1
  have e : u8s (us.set i x) = (u8s us).set i (.int .u8 (x : Int)) := by unfold u8s; rw [List.map_set]
  unfold Row5
  rw [e]; exact h2
theorem Row5.bys {w : World} {g N : Nat} {us : List Nat} (h : Row5 w g N us) (hd : ∀ x ∈ us, x < 256) : Bys w (some ⟨g, 0, none⟩) N us := Bys.own h hd

/-- Block g holds a set of a size, whose bytes lie in block b. -/
structure Sat (w : World) (g b n : Nat) (f : Nat → Bool) : Prop where
  le : n ≤ 2048
  sub : Sub n f
  ne : g ≠ b
  box : w.heap[g]? = some (.cells #[.int .i64 (n : Int), .slice (some ⟨b, 0, none⟩) (need n) (need n)] 91)
  row : Row5 w b (need n) (rowF f (need n))
section
variable {w w' : World} {g b n : Nat} {f : Nat → Bool}
theorem Sat.glt (h : Sat w g b n f) : g < w.heap.size := lt_of_block h.box
theorem Sat.blt (h : Sat w g b n f) : b < w.heap.size := h.row.lt
theorem Sat.c0 (h : Sat w g b n f) : w.cell? ⟨g, 0, none⟩ = some (.int .i64 (n : Int)) := by rw [cell_of_row _ _ _ _ _ _ h.box]; rfl
theorem Sat.c1 (h : Sat w g b n f) : w.cell? ⟨g, 1, none⟩ = some (.slice (some ⟨b, 0, none⟩) (need n) (need n)) := by rw [cell_of_row _ _ _ _ _ _ h.box]; rfl
theorem Sat.byte (h : Sat w g b n f) (i : Nat) (hi : i < need n) : w.cell? ⟨b, i, none⟩ = some (.int .u8 (byt f i : Int)) := by rw [h.row.cell i hi, rowF_getD _ _ _ hi]
theorem Sat.same (h : Sat w g b n f) (h1 : w'.heap[g]? = w.heap[g]?) (h2 : w'.heap[b]? = w.heap[b]?) : Sat w' g b n f := ⟨h.le, h.sub, h.ne, h1.trans h.box, h.row.same h2⟩
theorem Sat.below (h : Sat w g b n f) (hb : Below w.heap.size w w') : Sat w' g b n f := h.same (hb.block g h.glt) (hb.block b h.blt)
theorem Sat.only {k : Nat} (h : Sat w g b n f) (hk : Only k w w') (h1 : g ≠ k) (h2 : b ≠ k) : Sat w' g b n f := h.same (hk.block g h.glt h1) (hk.block b h.blt h2)
theorem Sat.set (h : Sat w g b n f) {i : Nat} (hi : i < n) (v : Bool) : Sat (w.setCell ⟨b, i / 8, none⟩ (.int .u8 (byt (upd f i v) (i / 8) : Int))) g b n (upd f i v) :=
  ⟨h.le, h.sub.upd hi v, h.ne, (Below.heap_setCell w _ _ g (by show g ≠ b; exact h.ne)).trans h.box, by
    have h2 := h.row.put (i / 8) (byt (upd f i v) (i / 8))
    rw [rowF_upd] at h2; exact h2⟩
theorem Sat.bys (h : Sat w g b n f) : Bys w (some ⟨b, 0, none⟩) (need n) (rowF f (need n)) := h.row.bys (rowF_dig _ _)
theorem Sat.drew (h : Sat w g b n f) : Sat w.drew g b n f := h.same rfl rfl
end
theorem need_le {n : Nat} (h : n ≤ 2048) : need n ≤ 256 := by unfold need; omega

theorem may_any (x : Int) (w : World) : Calls Try.prog 41 #[.int .i64 x] w fun e w' => e = .returned (.bool (decide (0 ≤ x) && decide (x ≤ 2048))) ∧ w = w' := by
  by_cases h : 0 ≤ x
  · have hd : decide (0 ≤ x) = true := decide_eq_true h
    go_enter Try.func41, Try.ntmps41
    go_wp2_with fail
    go_ret
    exact ⟨by simp [hd], rfl⟩
  · have hd : decide (0 ≤ x) = false := decide_eq_false h
    go_enter Try.func41, Try.ntmps41
    go_wp2_with fail
    go_ret
    exact ⟨by simp [hd], rfl⟩
theorem need_any (n : Nat) (w : World) (h : n ≤ 4096) : Calls Try.prog 58 #[.int .i64 (n : Int)] w fun e w' => e = .returned (.int .i64 (need n : Int)) ∧ w = w' := by
  go_enter Try.func58, Try.ntmps58
  go_wp2_with fail
  go_ret
  refine ⟨congrArg (fun z => Ending.returned (.int .i64 z)) (?_ : _ = _), rfl⟩
  unfold need
  simp
  try omega
theorem bit_any (i : Nat) (w : World) (h : i ≤ 4096) : Calls Try.prog 45 #[.int .i64 (i : Int)] w fun e w' => e = .returned (.int .u8 ((2 ^ (i % 8) : Nat) : Int)) ∧ w = w' := by
  have h8 : ∀ r : Fin 8, (2 : Int) ^ r.val % 256 = ((2 ^ r.val : Nat) : Int) := by decide
  have hm : i % 8 < 8 := Nat.mod_lt _ (by decide)
  go_enter Try.func45, Try.ntmps45
  go_wp2_with fail
  go_ret
  exact ⟨congrArg (fun z => Ending.returned (.int .u8 z)) (h8 ⟨i % 8, hm⟩), rfl⟩
theorem size_any {w : World} {g b n : Nat} {f : Nat → Bool} (h : Sat w g b n f) : Calls Try.prog 46 #[.pointer (some ⟨g, 0, none⟩)] w fun e w' => e = .returned (.int .i64 (n : Int)) ∧ w = w' := by
  have hc := h.c0
  clear h
  go_enter Try.func46, Try.ntmps46
  go_wp2_with fail
  go_ret
  exact ⟨rfl, rfl⟩
theorem reach_any {w : World} {g b n : Nat} {f : Nat → Bool} (h : Sat w g b n f) (x : Int) : Calls Try.prog 43 #[.pointer (some ⟨g, 0, none⟩), .int .i64 x] w fun e w' => e = .returned (.bool (decide (0 ≤ x) && decide (x < (n : Int)))) ∧ w = w' := by
  have H := Lib.hid h
  clear h
  by_cases h : 0 ≤ x
  · have hd : decide (0 ≤ x) = true := decide_eq_true h
    go_enter Try.func43, Try.ntmps43
    go_wp2_with (go_at_call 46; refine (size_any H.out).mono ?_; rintro e w7 ⟨rfl, rfl⟩)
    go_ret
    exact ⟨by simp [hd], rfl⟩
  · have hd : decide (0 ≤ x) = false := decide_eq_false h
    go_enter Try.func43, Try.ntmps43
    go_wp2_with fail
    go_ret
    exact ⟨by simp [hd], rfl⟩
end Go.Proofs.Ytamfkglkgfggaaa
