/- A page in memory; what a call on it may change. -/
import Derived.Test.YtldkmkgkllgckaaDoorBytes
import Derived.Test.YtldkmkgkllgckaaDoorMdl
import Derived.Laws.Rows
import Derived.WalkSmall
set_option linter.unusedSimpArgs false
namespace Go.Proofs.YtldkmkgkllgckaaDoor
open Go.RowKit

/-- What a call on a page may change: its own blocks. -/
structure Chg (F F' : List Nat) (w w' : World) : Prop where
  os : w'.os = w.os
  tape : w'.tape = w.tape
  output : w'.output = w.output
  size : w.heap.size ≤ w'.heap.size
  block : ∀ k, k < w.heap.size → k ∉ F → w'.heap[k]? = w.heap[k]?
  fresh : ∀ k ∈ F', k ∈ F ∨ w.heap.size ≤ k
theorem Chg.refl (F : List Nat) (w : World) : Chg F F w w := ⟨rfl, rfl, rfl, Nat.le_refl _, fun _ _ _ => rfl, fun _ h => .inl h⟩
theorem Chg.trans {F F' F2 : List Nat} {a b c : World} (h : Chg F F' a b) (k : Chg F' F2 b c) : Chg F F2 a c :=
  ⟨k.os.trans h.os, k.tape.trans h.tape, k.output.trans h.output, Nat.le_trans h.size k.size,
   fun i hi hF => (k.block i (Nat.lt_of_lt_of_le hi h.size) (fun e => (h.fresh i e).elim hF (fun h2 => by omega))).trans (h.block i hi hF),
   fun i hi => (k.fresh i hi).elim (fun e => h.fresh i e) (fun e => .inr (Nat.le_trans h.size e))⟩
theorem Chg.of_below {F : List Nat} {w w' : World} (h : Below w.heap.size w w') : Chg F F w w' := ⟨h.os, h.tape, h.output, h.size, fun k hk _ => h.block k hk, fun _ h => .inl h⟩
theorem Chg.below {F F' : List Nat} {B : Nat} {a w w' : World} (h : Chg F F' w w') (hb : Below B a w) (hB : B ≤ w.heap.size) (hF : ∀ k ∈ F, B ≤ k) : Below B a w' :=
  hb.trans ⟨h.os, h.tape, h.output, h.size, fun k hk => h.block k (by omega) (fun e => by have := hF k e; omega)⟩
theorem Chg.high {F F' : List Nat} {B : Nat} {w w' : World} (h : Chg F F' w w') (hB : B ≤ w.heap.size) (hF : ∀ k ∈ F, B ≤ k) : ∀ k ∈ F', B ≤ k := fun k hk => (h.fresh k hk).elim (hF k) (fun e => by omega)
theorem Chg.drew {F F' : List Nat} {w w' : World} (h : Chg F F' w w') : Chg F F' w w'.drew := ⟨h.os, h.tape, h.output, h.size, h.block, h.fresh⟩
theorem Chg.of_drew {F F' : List Nat} {w w' : World} (h : Chg F F' w.drew w') : Chg F F' w w' := ⟨h.os, h.tape, h.output, h.size, h.block, h.fresh⟩
theorem Chg.setCell {F : List Nat} {g i : Nat} (hg : g ∈ F) (v : Value) (w : World) : Chg F F w (w.setCell ⟨g, i, none⟩ v) :=
  have h := (Below.refl 0 w).setCell (p := ⟨g, i, none⟩) (Nat.zero_le _) v
  ⟨h.os, h.tape, h.output, h.size, fun k _ hF => Below.heap_setCell w _ v k (fun e => hF (by rw [e]; exact hg)), fun _ h => .inl h⟩
theorem Chg.more {F F' G : List Nat} {w w' : World} (h : Chg F F' w w') (hF : ∀ k ∈ F, k ∈ G) (_hF' : ∀ k ∈ F', k ∈ G) : Chg G G w w' :=
  ⟨h.os, h.tape, h.output, h.size, fun k hk hn => h.block k hk (fun e => hn (hF k e)), fun _ h => .inl h⟩
/-- Blocks of a page hold no bytes, no strings, and none of the document's slots. -/
def Typed (w : World) (F : List Nat) : Prop := ∀ k ∈ F, ∃ cs t fr, w.heap[k]? = some (.cells cs t fr) ∧ (t = 54 ∨ t = 56)
/-- A block of another type. -/
theorem Chg.keep {F F' : List Nat} {w w' : World} (h : Chg F F' w w') (hT : Typed w F) {b t : Nat} {cs : Array Value} {fr : Nat × Nat} (hb : w.heap[b]? = some (.cells cs t fr)) (ht : t ≠ 54 ∧ t ≠ 56) : w'.heap[b]? = some (.cells cs t fr) := by
  rw [h.block b (lt_of_block hb) (fun e => by
    obtain ⟨cs2, t2, fr2, h2, h3⟩ := hT b e
    rw [hb] at h2
    cases h2
    exact h3.elim ht.1 ht.2), hb]
theorem own_head {w : World} {base E m n : Nat} {v : Value} {xs : List Value} {g : Nat} (h : w.ownsRow base E m v n xs) (hg : v.ownBlock = some g) : ∃ cur, w.heap[g]? = some (.cells cur E (0, 0)) := by
  rcases h.2 with ⟨rfl, _⟩ | ⟨g', cap, cur, rfl, _, hh, _⟩
  · simp [Value.ownBlock] at hg
  · simp [Value.ownBlock] at hg
    subst hg
    exact ⟨cur, hh⟩
theorem own_other {w w' : World} {base E m n : Nat} {v : Value} {xs : List Value} (h : w.ownsRow base E m v n xs) (hb : ∀ g, v.ownBlock = some g → w'.heap[g]? = w.heap[g]?) : w'.ownsRow base E m v n xs := by
  refine ⟨h.1, ?_⟩
  rcases h.2 with h2 | ⟨g, cap, cur, rfl, hb2, hg, hr⟩
  · exact .inl h2
  · exact .inr ⟨g, cap, cur, rfl, hb2, (hb g rfl).trans hg, hr⟩
theorem own_chg {F F' : List Nat} {w w' : World} {base E n k : Nat} {v : Value} {xs : List Value} (h : w.ownsRow base E n v k xs) (hc : Chg F F' w w') (hT : Typed w F) (hE : E ≠ 54 ∧ E ≠ 56) : w'.ownsRow base E n v k xs := by
  refine ⟨h.1, ?_⟩
  rcases h.2 with h2 | ⟨g, cap, cur, e, hb, hg, hr⟩
  · exact .inl h2
  · exact .inr ⟨g, cap, cur, e, hb, hc.keep hT hg hE, hr⟩
theorem base0 {w : World} {base E m n : Nat} {v : Value} {xs : List Value} (h : w.ownsRow base E m v n xs) : w.ownsRow 0 E m v n xs := by
  refine ⟨h.1, ?_⟩
  rcases h.2 with h2 | ⟨g, cap, cur, e, hb, hg, hr⟩
  · exact .inl h2
  · exact .inr ⟨g, cap, cur, e, Nat.zero_le _, hg, hr⟩
theorem own_form {w : World} {base E m n : Nat} {v : Value} {xs : List Value} (h : w.ownsRow base E m v n xs) : ∃ (q : Option Addr) (c : Nat), v = .slice q n c := by
  rcases h.2 with ⟨rfl, hx⟩ | ⟨g, cap, cur, e, _⟩
  · have := h.1
    subst hx
    exact ⟨none, 0, rfl⟩
  · exact ⟨_, _, e⟩
/-- A row's form where it has an element. -/
theorem own_some {w : World} {base E m n : Nat} {v : Value} {xs : List Value} (h : w.ownsRow base E m v n xs) (hn : 0 < n) : ∃ (g c : Nat), v = .slice (some ⟨g, 0, none⟩) n c := by
  rcases h.2 with ⟨rfl, hx⟩ | ⟨g, cap, cur, e, _⟩
  · exact absurd hx (by omega)
  · exact ⟨g, cap, e⟩

/-- Block g holds a page. -/
structure Pg0 (w : World) (g : Nat) (v : Value) (l : List Sl) : Prop where
  hd : w.heap[g]? = some (.cells #[v] 54 (0, 0))
  row : w.ownsRow 0 56 2 v l.length (flat l)
  ok : Okp l
def foot (g : Nat) (v : Value) : List Nat := g :: v.ownBlock.toList
/-- Block g holds a page; F are its blocks. -/
def Pg (w : World) (g : Nat) (F : List Nat) (l : List Sl) : Prop := ∃ v, Pg0 w g v l ∧ F = foot g v
/-- What a call makes of a page. -/
def Went (F : List Nat) (g : Nat) (l : List Sl) (w w' : World) : Prop := ∃ F', Pg w' g F' l ∧ Chg F F' w w'
theorem ne_of_ty {w : World} {a b : Nat} {cs ds : Array Value} {t u : Nat} {fr fs : Nat × Nat} (h : w.heap[a]? = some (.cells cs t fr)) (k : w.heap[b]? = some (.cells ds u fs)) (ht : t ≠ u) : a ≠ b := by
  rintro rfl
  rw [h] at k
  cases k
  exact ht rfl
section
variable {w : World} {g : Nat} {v : Value} {l : List Sl}
theorem Pg0.lt (h : Pg0 w g v l) : g < w.heap.size := lt_of_block h.hd
theorem Pg0.c0 (h : Pg0 w g v l) : w.cell? ⟨g, 0, none⟩ = some v := by rw [cell_of_row w g 0 _ _ _ h.hd]; rfl
theorem Pg0.fz (h : Pg0 w g v l) : w.frozen? ⟨g, 0, none⟩ = false := frozen_of_row w g 0 _ _ h.hd
theorem Pg0.form (h : Pg0 w g v l) : ∃ q c, v = .slice q l.length c := own_form h.row
theorem Pg0.ne (h : Pg0 w g v l) : ∀ k, v.ownBlock = some k → g ≠ k := fun k hk => by obtain ⟨cur, hc⟩ := own_head h.row hk; exact ne_of_ty h.hd hc (by decide)
theorem Pg0.typed (h : Pg0 w g v l) : Typed w (foot g v) := by
  intro k hk
  unfold foot at hk
  simp only [List.mem_cons, Option.mem_toList] at hk
  rcases hk with rfl | hk
  · exact ⟨_, _, _, h.hd, .inl rfl⟩
  · obtain ⟨cur, hc⟩ := own_head h.row hk; exact ⟨_, _, _, hc, .inr rfl⟩
theorem Pg0.pg (h : Pg0 w g v l) : Pg w g (foot g v) l := ⟨_, h, rfl⟩
theorem Pg0.stay {w' : World} {F F' : List Nat} (h : Pg0 w g v l) (hc : Chg F F' w w') (hF : ∀ k ∈ foot g v, k ∉ F) : Pg0 w' g v l := by
  have hs : ∀ k ∈ foot g v, w'.heap[k]? = w.heap[k]? := fun k hk => hc.block k (by
    obtain ⟨cs, t, fr, h1, _⟩ := h.typed k hk; exact lt_of_block h1) (hF k hk)
  exact ⟨(hs g (by simp [foot])).trans h.hd, own_other h.row (fun k hk => hs k (by simp [foot, hk])), h.ok⟩
theorem Pg0.below {w' : World} (h : Pg0 w g v l) (hb : Below w.heap.size w w') : Pg0 w' g v l := h.stay (Chg.of_below (F := []) hb) (fun k _ hk => by cases hk)
/-- The cells of a slot. -/
theorem Pg0.at (h : Pg0 w g v l) {k : Nat} (hk : k < l.length) : ∃ b c, v = .slice (some ⟨b, 0, none⟩) l.length c ∧ l.length ≤ c ∧ w.cell? ⟨b, k * 2, none⟩ = some (.bool (slot l k).isSome) ∧ w.cell? ⟨b, k * 2 + 1, none⟩ = some (.string (recOf (slot l k))) := by
  obtain ⟨b, c, e⟩ := own_some h.row (by omega)
  subst e
  have hr := h.row
  have hc : l.length ≤ c := by
    rcases hr.2 with ⟨e, _⟩ | ⟨g', cap, cur, e, _, _, h1, _⟩
    · cases e
    · cases e; exact h1
  obtain ⟨f1, f2⟩ := flat_get l k hk
  have a1 := hr.cellAt (k * 2) (by omega)
  have a2 := hr.cellAt (k * 2 + 1) (by omega)
  rw [f1] at a1
  rw [f2] at a2
  exact ⟨b, c, rfl, hc, a1, a2⟩
end
theorem Pg.ok {w : World} {g : Nat} {F : List Nat} {l : List Sl} (h : Pg w g F l) : Okp l := by obtain ⟨v, h, _⟩ := h; exact h.ok
theorem Pg.typed {w : World} {g : Nat} {F : List Nat} {l : List Sl} (h : Pg w g F l) : Typed w F := by obtain ⟨v, h, rfl⟩ := h; exact h.typed
theorem Pg.lt {w : World} {g : Nat} {F : List Nat} {l : List Sl} (h : Pg w g F l) : ∀ k ∈ F, k < w.heap.size := fun k hk => by
  obtain ⟨cs, t, fr, h1, _⟩ := h.typed k hk; exact lt_of_block h1
theorem Pg.stay {w w' : World} {g : Nat} {F F1 F' : List Nat} {l : List Sl} (h : Pg w g F1 l) (hc : Chg F F' w w') (hF : ∀ k ∈ F1, k ∉ F) : Pg w' g F1 l := by
  obtain ⟨v, h, rfl⟩ := h
  exact ⟨v, h.stay hc hF, rfl⟩
theorem Pg.below {w w' : World} {g : Nat} {F : List Nat} {l : List Sl} (h : Pg w g F l) (hb : Below w.heap.size w w') : Pg w' g F l := h.stay (Chg.of_below (F := []) hb) (fun k _ hk => by cases hk)
theorem Went.refl {w : World} {F : List Nat} {g : Nat} {l : List Sl} (h : Pg w g F l) : Went F g l w w := ⟨F, h, Chg.refl _ _⟩
theorem Went.below {w w' : World} {F : List Nat} {g : Nat} {l : List Sl} (h : Pg w g F l) (hb : Below w.heap.size w w') : Went F g l w w' := ⟨F, h.below hb, Chg.of_below hb⟩
theorem Went.then {w w' w2 : World} {F : List Nat} {g : Nat} {l : List Sl} (h : Went F g l w w') (hb : Below w'.heap.size w' w2) : Went F g l w w2 := by
  obtain ⟨F', h1, h2⟩ := h
  exact ⟨F', h1.below hb, h2.trans (Chg.of_below hb)⟩
end Go.Proofs.YtldkmkgkllgckaaDoor
