/- A disk in memory; what a call on it may change. -/
import Derived.Test.YtnjlhallkgacjaaTwo
import Derived.Test.YtnjlhallkgacjaaMod
import Derived.Laws.Rows
namespace Go.Proofs.Ytnjlhallkgacjaa
open Go.RowKit

/-- A sector's bytes: a slice at the head of a block of bytes. -/
def Sec (w : World) (v : Value) (s : List Nat) : Prop :=
  ∃ b c cur fr, v = .slice (some ⟨b, 0, none⟩) 128 c ∧ w.heap[b]? = some (.cells cur 5 fr) ∧ s.length = 128 ∧ (∀ d ∈ s, d < 256) ∧ (∀ i, i < 128 → cur[i]? = some (.int .u8 ((s.getD i 0 : Nat) : Int))) ∧ 128 ≤ c ∧ c ≤ 9223372036854775807
theorem Sec.bys {w : World} {v : Value} {s : List Nat} (h : Sec w v s) : ∃ b c, v = .slice (some ⟨b, 0, none⟩) 128 c ∧ Bys w (some ⟨b, 0, none⟩) 128 s ∧ b < w.heap.size ∧ 128 ≤ c ∧ c ≤ 9223372036854775807 := by
  obtain ⟨b, c, cur, fr, rfl, hh, hl, hd, hc, h1, h2⟩ := h
  exact ⟨b, c, rfl, ⟨hl, hd, fun _ => ⟨b, 0, rfl, fun i hi => by rw [Nat.zero_add, cell_of_row w b i _ _ _ hh]; exact hc i hi⟩⟩, lt_of_block hh, h1, h2⟩
theorem Sec.len {w : World} {v : Value} {s : List Nat} (h : Sec w v s) : s.length = 128 := by obtain ⟨b, c, cur, fr, _, _, hl, _⟩ := h; exact hl
theorem Sec.dig {w : World} {v : Value} {s : List Nat} (h : Sec w v s) : ∀ d ∈ s, d < 256 := by obtain ⟨b, c, cur, fr, _, _, _, hd, _⟩ := h; exact hd
theorem Sec.of_own {w : World} {base : Nat} {v : Value} {s : List Nat} (h : w.ownsRow base 5 1 v 128 (u8s s)) (hd : ∀ d ∈ s, d < 256) : Sec w v s := by
  have hl : s.length = 128 := by have := h.1; rw [u8s_len] at this; omega
  rcases h.2 with ⟨_, h0⟩ | ⟨g, cap, cur, rfl, hb, hh, h1, h2, h3, h4⟩
  · omega
  · refine ⟨g, cap, cur, (0, 0), rfl, hh, hl, hd, fun i hi => ?_, h1, by unfold maxLen at h2; omega⟩
    have h5 := u8s_get s i (by omega)
    rw [← h4, List.getElem?_take, if_pos (by omega)] at h5
    simpa using h5
theorem Sec.one {w : World} {v : Value} {s : List Nat} (h : Sec w v s) : v.oneCell' = true := by obtain ⟨b, c, cur, fr, rfl, _⟩ := h; rfl

/-- What a call on a disk may change: its own blocks. -/
structure Chg (F F' : List Nat) (w w' : World) : Prop where
  os : w'.os = w.os
  tape : w'.tape = w.tape
  output : w'.output = w.output
  size : w.heap.size ≤ w'.heap.size
  block : ∀ k, k < w.heap.size → k ∉ F → w'.heap[k]? = w.heap[k]?
  fresh : ∀ k ∈ F', k ∈ F ∨ w.heap.size ≤ k
theorem Chg.refl (F : List Nat) (w : World) : Chg F F w w := ⟨rfl, rfl, rfl, Nat.le_refl _, fun _ _ _ => rfl, fun _ h => .inl h⟩
theorem Chg.trans {F F' F2 : List Nat} {a b c : World} (h : Chg F F' a b) (k : Chg F' F2 b c) : Chg F F2 a c :=
  ⟨k.os.trans h.os, k.tape.trans h.tape, k.output.trans h.output, Nat.le_trans h.size k.size,
   fun i hi hF => (k.block i (Nat.lt_of_lt_of_le hi h.size) (fun e => (h.fresh i e).elim hF (fun h2 => by omega))).trans (h.block i hi hF),
   fun i hi => (k.fresh i hi).elim (fun e => h.fresh i e) (fun e => .inr (Nat.le_trans h.size e))⟩
theorem Chg.of_below {F : List Nat} {w w' : World} (h : Below w.heap.size w w') : Chg F F w w' := ⟨h.os, h.tape, h.output, h.size, fun k hk _ => h.block k hk, fun _ h => .inl h⟩
theorem Chg.below {F F' : List Nat} {B : Nat} {a w w' : World} (h : Chg F F' w w') (hb : Below B a w) (hB : B ≤ w.heap.size) (hF : ∀ k ∈ F, B ≤ k) : Below B a w' :=
  hb.trans ⟨h.os, h.tape, h.output, h.size, fun k hk => h.block k (by omega) (fun e => by have := hF k e; omega)⟩
theorem Chg.high {F F' : List Nat} {B : Nat} {w w' : World} (h : Chg F F' w w') (hB : B ≤ w.heap.size) (hF : ∀ k ∈ F, B ≤ k) : ∀ k ∈ F', B ≤ k := fun k hk => (h.fresh k hk).elim (hF k) (fun e => by omega)
theorem Chg.drew {F F' : List Nat} {w w' : World} (h : Chg F F' w w') : Chg F F' w w'.drew := ⟨h.os, h.tape, h.output, h.size, h.block, h.fresh⟩
theorem Chg.of_drew {F F' : List Nat} {w w' : World} (h : Chg F F' w.drew w') : Chg F F' w w' := ⟨h.os, h.tape, h.output, h.size, h.block, h.fresh⟩
theorem Chg.setCell {F : List Nat} {g i : Nat} (hg : g ∈ F) (v : Value) (w : World) : Chg F F w (w.setCell ⟨g, i, none⟩ v) :=
  have h := (Below.refl 0 w).setCell (p := ⟨g, i, none⟩) (Nat.zero_le _) v
  ⟨h.os, h.tape, h.output, h.size, fun k _ hF => Below.heap_setCell w _ v k (fun e => hF (by rw [e]; exact hg)), fun _ h => .inl h⟩
/-- Blocks of a disk hold no bytes, no strings, and none of the document's writes. -/
def Typed (w : World) (F : List Nat) : Prop := ∀ k ∈ F, ∃ cs t fr, w.heap[k]? = some (.cells cs t fr) ∧ (t = 72 ∨ t = 45 ∨ t = 81)
/-- A block of another type. -/
theorem Chg.keep {F F' : List Nat} {w w' : World} (h : Chg F F' w w') (hT : Typed w F) {b t : Nat} {cs : Array Value} {fr : Nat × Nat} (hb : w.heap[b]? = some (.cells cs t fr)) (ht : t ≠ 72 ∧ t ≠ 45 ∧ t ≠ 81) : w'.heap[b]? = some (.cells cs t fr) := by
  rw [h.block b (lt_of_block hb) (fun e => by
    obtain ⟨cs2, t2, fr2, h2, h3⟩ := hT b e
    rw [hb] at h2
    cases h2
    exact h3.elim ht.1 (fun h4 => h4.elim ht.2.1 ht.2.2)), hb]
theorem Sec.chg {F F' : List Nat} {w w' : World} {v : Value} {s : List Nat} (hs : Sec w v s) (h : Chg F F' w w') (hT : Typed w F) : Sec w' v s := by
  obtain ⟨b, c, cur, fr, rfl, hh, hr⟩ := hs
  exact ⟨b, c, cur, fr, rfl, h.keep hT hh (by decide), hr⟩
theorem Sec.below {w w' : World} {v : Value} {s : List Nat} (hs : Sec w v s) (h : Below w.heap.size w w') : Sec w' v s := by
  obtain ⟨b, c, cur, fr, rfl, hh, hr⟩ := hs
  exact ⟨b, c, cur, fr, rfl, (h.block b (lt_of_block hh)).trans hh, hr⟩

def vAt (vs : List Value) (i : Nat) : Value := vs.getD i (.slice none 0 0)
/-- A row of sectors. -/
structure Secs (w : World) (vs : List Value) (L : List (List Nat)) : Prop where
  len : vs.length = L.length
  at_ : ∀ i, i < L.length → Sec w (vAt vs i) (sec L i)
theorem vAt_get {vs : List Value} {i : Nat} (h : i < vs.length) : vs[i]? = some (vAt vs i) := by
  unfold vAt; rw [List.getD_eq_getElem?_getD, List.getElem?_eq_getElem h]; rfl
theorem vAt_set {vs : List Value} {i : Nat} (v : Value) (h : i < vs.length) (j : Nat) : vAt (vs.set i v) j = if i = j then v else vAt vs j := by
  unfold vAt
  rw [List.getD_eq_getElem?_getD, List.getD_eq_getElem?_getD, List.getElem?_set]
  split
  · rename_i e; subst e; simp
  · rfl
theorem Secs.set {w : World} {vs : List Value} {L : List (List Nat)} (h : Secs w vs L) {i : Nat} (hi : i < L.length) {v : Value} {s : List Nat} (hs : Sec w v s) : Secs w (vs.set i v) (L.set i s) := by
  refine ⟨by rw [List.length_set, List.length_set]; exact h.len, fun j hj => ?_⟩
  rw [List.length_set] at hj
  rw [vAt_set v (by rw [h.len]; exact hi), sec_set s hi]
  split
  · exact hs
  · exact h.at_ j hj
theorem Secs.chg {F F' : List Nat} {w w' : World} {vs : List Value} {L : List (List Nat)} (hs : Secs w vs L) (h : Chg F F' w w') (hT : Typed w F) : Secs w' vs L := ⟨hs.len, fun i hi => (hs.at_ i hi).chg h hT⟩
theorem Secs.below {w w' : World} {vs : List Value} {L : List (List Nat)} (hs : Secs w vs L) (h : Below w.heap.size w w') : Secs w' vs L := ⟨hs.len, fun i hi => (hs.at_ i hi).below h⟩
theorem Secs.one {w : World} {vs : List Value} {L : List (List Nat)} (h : Secs w vs L) : ∀ v ∈ vs, v.oneCell' = true := by
  intro v hv
  obtain ⟨i, hi, e⟩ := List.getElem_of_mem hv
  have h1 := (h.at_ i (by rw [← h.len]; exact hi)).one
  rw [show vAt vs i = v by have := vAt_get hi; rw [List.getElem?_eq_getElem hi, e] at this; exact (Option.some.inj this).symm] at h1
  exact h1

abbrev Vw := Nat × Value
def vw (l : List Vw) (k : Nat) : Vw := l.getD k (0, .slice none 0 0)
/-- The cells of the writes that wait. -/
def flat (l : List Vw) : List Value := l.flatMap fun x => [.int .i64 (x.1 : Int), x.2]
theorem flat_len (l : List Vw) : (flat l).length = l.length * 2 := by
  unfold flat
  induction l with
  | nil => rfl
  | cons a l ih => simp only [List.flatMap_cons, List.length_append, List.length_cons, List.length_nil]; rw [ih]; omega
theorem flat_snoc (l : List Vw) (x : Vw) : flat (l ++ [x]) = flat l ++ [.int .i64 (x.1 : Int), x.2] := by
  unfold flat; simp
theorem flat_get (l : List Vw) (k : Nat) (h : k < l.length) : (flat l)[k * 2]? = some (.int .i64 ((vw l k).1 : Int)) ∧ (flat l)[k * 2 + 1]? = some (vw l k).2 := by
  induction l generalizing k with
  | nil => cases h
  | cons a l ih =>
    cases k with
    | zero => exact ⟨rfl, rfl⟩
    | succ k =>
      have h2 := ih k (by simpa using h)
      have e : flat (a :: l) = [.int .i64 (a.1 : Int), a.2] ++ flat l := rfl
      rw [e, List.getElem?_append_right (by simp; omega), List.getElem?_append_right (by simp; omega)]
      rw [show (k + 1) * 2 - [Value.int .i64 (a.1 : Int), a.2].length = k * 2 by simp; omega, show (k + 1) * 2 + 1 - [Value.int .i64 (a.1 : Int), a.2].length = k * 2 + 1 by simp; omega]
      exact h2
/-- A row of writes that wait. -/
structure Vws (w : World) (vs : List Vw) (l : List Wr) : Prop where
  len : vs.length = l.length
  at_ : ∀ k, k < l.length → (vw vs k).1 = (wr l k).1 ∧ Sec w (vw vs k).2 (wr l k).2
theorem Vws.chg {F F' : List Nat} {w w' : World} {vs : List Vw} {l : List Wr} (hs : Vws w vs l) (h : Chg F F' w w') (hT : Typed w F) : Vws w' vs l := ⟨hs.len, fun i hi => ⟨(hs.at_ i hi).1, (hs.at_ i hi).2.chg h hT⟩⟩
theorem Vws.below {w w' : World} {vs : List Vw} {l : List Wr} (hs : Vws w vs l) (h : Below w.heap.size w w') : Vws w' vs l := ⟨hs.len, fun i hi => ⟨(hs.at_ i hi).1, (hs.at_ i hi).2.below h⟩⟩
theorem Vws.nil_ (w : World) : Vws w [] [] := ⟨rfl, fun k hk => absurd hk (Nat.not_lt_zero k)⟩
theorem vw_left (l r : List Vw) (k : Nat) (h : k < l.length) : vw (l ++ r) k = vw l k := by
  unfold vw; rw [List.getD_eq_getElem?_getD, List.getD_eq_getElem?_getD, List.getElem?_append_left h]
theorem vw_last (l : List Vw) (x : Vw) : vw (l ++ [x]) l.length = x := by
  unfold vw; rw [List.getD_eq_getElem?_getD, List.getElem?_append_right (Nat.le_refl _)]; simp
theorem Vws.snoc {w : World} {vs : List Vw} {l : List Wr} (h : Vws w vs l) (i : Nat) {v : Value} {s : List Nat} (hs : Sec w v s) : Vws w (vs ++ [(i, v)]) (l ++ [(i, s)]) := by
  refine ⟨by rw [List.length_append, List.length_append, h.len]; rfl, fun k hk => ?_⟩
  rw [List.length_append] at hk
  rcases Nat.lt_or_ge k l.length with h1 | h1
  · rw [vw_left _ _ _ (by rw [h.len]; exact h1), wr_left _ _ _ h1]; exact h.at_ k h1
  · obtain rfl : k = l.length := by simp at hk; omega
    rw [wr_last, ← h.len, vw_last]
    exact ⟨rfl, hs⟩
theorem Vws.one {w : World} {vs : List Vw} {l : List Wr} (h : Vws w vs l) : ∀ u ∈ flat vs, u.oneCell' = true := by
  intro u hu
  unfold flat at hu
  obtain ⟨x, hx, hu⟩ := List.mem_flatMap.1 hu
  obtain ⟨i, hi, e⟩ := List.getElem_of_mem hx
  have h1 := (h.at_ i (by rw [← h.len]; exact hi)).2.one
  have e2 : vw vs i = x := by unfold vw; rw [List.getD_eq_getElem?_getD, List.getElem?_eq_getElem hi, e]; rfl
  rw [e2] at h1
  simp at hu
  rcases hu with rfl | rfl
  · rfl
  · exact h1

/-- Block g holds a disk: its blocks and their cells told. -/
structure Dk0 (w : World) (g bO cO bL cL : Nat) (vW : Value) (os ls : List Value) (ws : List Vw) (m : Dsk) : Prop where
  hd : w.heap[g]? = some (.cells #[.slice (some ⟨bO, 0, none⟩) m.out.length cO, .slice (some ⟨bL, 0, none⟩) m.out.length cL, vW, .int .i64 m.fuse, .bool m.down, .int .i64 (m.done : Int)] 72 (0, 0))
  ro : w.ownsRow 0 45 1 (.slice (some ⟨bO, 0, none⟩) m.out.length cO) m.out.length os
  rl : w.ownsRow 0 45 1 (.slice (some ⟨bL, 0, none⟩) m.out.length cL) m.out.length ls
  rw_ : w.ownsRow 0 81 2 vW m.row.length (flat ws)
  so : Secs w os m.out
  sl : Secs w ls m.last
  sw : Vws w ws m.row
  nil_ : m.row = [] → vW = .slice none 0 0
  ne : bO ≠ bL
  ok : Ok m
def foot (g bO bL : Nat) (vW : Value) : List Nat := g :: bO :: bL :: vW.ownBlock.toList
/-- Block g holds a disk; F are its blocks. -/
def Dk (w : World) (g : Nat) (F : List Nat) (m : Dsk) : Prop := ∃ bO cO bL cL vW os ls ws, Dk0 w g bO cO bL cL vW os ls ws m ∧ F = foot g bO bL vW
/-- What a call makes of a disk. -/
def Went (F : List Nat) (g : Nat) (m : Dsk) (w w' : World) : Prop := ∃ F', Dk w' g F' m ∧ Chg F F' w w'

theorem own_head {w : World} {base E m n : Nat} {v : Value} {xs : List Value} {g : Nat} (h : w.ownsRow base E m v n xs) (hg : v.ownBlock = some g) : ∃ cur, w.heap[g]? = some (.cells cur E (0, 0)) := by
  rcases h.2 with ⟨rfl, _⟩ | ⟨g', cap, cur, rfl, _, hh, _⟩
  · simp [Value.ownBlock] at hg
  · simp [Value.ownBlock] at hg
    subst hg
    exact ⟨cur, hh⟩
theorem Dk0.typed {w : World} {g bO cO bL cL : Nat} {vW : Value} {os ls : List Value} {ws : List Vw} {m : Dsk} (h : Dk0 w g bO cO bL cL vW os ls ws m) : Typed w (foot g bO bL vW) := by
  intro k hk
  unfold foot at hk
  simp only [List.mem_cons, Option.mem_toList] at hk
  rcases hk with rfl | rfl | rfl | hk
  · exact ⟨_, _, _, h.hd, .inl rfl⟩
  · obtain ⟨cur, hc⟩ := own_head h.ro rfl; exact ⟨_, _, _, hc, .inr (.inl rfl)⟩
  · obtain ⟨cur, hc⟩ := own_head h.rl rfl; exact ⟨_, _, _, hc, .inr (.inl rfl)⟩
  · obtain ⟨cur, hc⟩ := own_head h.rw_ hk; exact ⟨_, _, _, hc, .inr (.inr rfl)⟩
theorem Dk.typed {w : World} {g : Nat} {F : List Nat} {m : Dsk} (h : Dk w g F m) : Typed w F := by
  obtain ⟨bO, cO, bL, cL, vW, os, ls, ws, h, rfl⟩ := h; exact h.typed
theorem Dk.lt {w : World} {g : Nat} {F : List Nat} {m : Dsk} (h : Dk w g F m) : ∀ k ∈ F, k < w.heap.size := fun k hk => by
  obtain ⟨cs, t, fr, h1, _⟩ := h.typed k hk; exact lt_of_block h1
theorem Dk.ok {w : World} {g : Nat} {F : List Nat} {m : Dsk} (h : Dk w g F m) : Ok m := by
  obtain ⟨bO, cO, bL, cL, vW, os, ls, ws, h, rfl⟩ := h; exact h.ok
theorem own_other {w w' : World} {base E m n : Nat} {v : Value} {xs : List Value} (h : w.ownsRow base E m v n xs) (hb : ∀ g, v.ownBlock = some g → w'.heap[g]? = w.heap[g]?) : w'.ownsRow base E m v n xs := by
  refine ⟨h.1, ?_⟩
  rcases h.2 with h2 | ⟨g, cap, cur, rfl, hb2, hg, hr⟩
  · exact .inl h2
  · exact .inr ⟨g, cap, cur, rfl, hb2, (hb g rfl).trans hg, hr⟩
/-- A disk stays while other blocks change. -/
theorem Dk0.stay {w w' : World} {F F' : List Nat} {g bO cO bL cL : Nat} {vW : Value} {os ls : List Value} {ws : List Vw} {m : Dsk} (h : Dk0 w g bO cO bL cL vW os ls ws m) (hc : Chg F F' w w') (hT : Typed w F) (hF : ∀ k ∈ foot g bO bL vW, k ∉ F) : Dk0 w' g bO cO bL cL vW os ls ws m := by
  have hs : ∀ k ∈ foot g bO bL vW, w'.heap[k]? = w.heap[k]? := fun k hk => hc.block k (by
    obtain ⟨cs, t, fr, h1, _⟩ := h.typed k hk; exact lt_of_block h1) (hF k hk)
  refine ⟨(hs g (by simp [foot])).trans h.hd, own_other h.ro (fun k hk => hs k ?_), own_other h.rl (fun k hk => hs k ?_), own_other h.rw_ (fun k hk => hs k ?_), h.so.chg hc hT, h.sl.chg hc hT, h.sw.chg hc hT, h.nil_, h.ne, h.ok⟩
  · cases hk; simp [foot]
  · cases hk; simp [foot]
  · simp [foot, hk]
theorem Dk.stay {w w' : World} {F F1 F' : List Nat} {g : Nat} {m : Dsk} (h : Dk w g F1 m) (hc : Chg F F' w w') (hT : Typed w F) (hF : ∀ k ∈ F1, k ∉ F) : Dk w' g F1 m := by
  obtain ⟨bO, cO, bL, cL, vW, os, ls, ws, h, rfl⟩ := h
  exact ⟨bO, cO, bL, cL, vW, os, ls, ws, h.stay hc hT hF, rfl⟩
theorem Dk.below {w w' : World} {F : List Nat} {g : Nat} {m : Dsk} (h : Dk w g F m) (hb : Below w.heap.size w w') : Dk w' g F m :=
  h.stay (Chg.of_below (F := []) hb) (fun k hk => by cases hk) (fun k _ hk => by cases hk)
theorem Went.refl {w : World} {F : List Nat} {g : Nat} {m : Dsk} (h : Dk w g F m) : Went F g m w w := ⟨F, h, Chg.refl _ _⟩
theorem Went.below {w w' : World} {F : List Nat} {g : Nat} {m : Dsk} (h : Dk w g F m) (hb : Below w.heap.size w w') : Went F g m w w' := ⟨F, h.below hb, Chg.of_below hb⟩
end Go.Proofs.Ytnjlhallkgacjaa
