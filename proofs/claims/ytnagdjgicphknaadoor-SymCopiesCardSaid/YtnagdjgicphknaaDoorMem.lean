/- A table in memory, a row of names beside it; what a call on them may change. -/
import Derived.Test.YtnagdjgicphknaaDoorMap
import Derived.Laws.Rows
import Derived.WalkSmall
set_option linter.unusedSimpArgs false
namespace Go.Proofs.YtnagdjgicphknaaDoor
open Go.RowKit

/-- What a call may change: these blocks. -/
structure Chg (F F' : List Nat) (w w' : World) : Prop where
  os : w'.os = w.os
  tape : w'.tape = w.tape
  output : w'.output = w.output
  size : w.heap.size ≤ w'.heap.size
  block : ∀ k, k < w.heap.size → k ∉ F → w'.heap[k]? = w.heap[k]?
  fresh : ∀ k ∈ F', k ∈ F ∨ w.heap.size ≤ k
theorem Chg.refl (F : List Nat) (w : World) : Chg F F w w := ⟨rfl, rfl, rfl, Nat.le_refl _, fun _ _ _ => rfl, fun _ h => .inl h⟩
theorem Chg.trans {F F' F2 : List Nat} {a b c : World} (h : Chg F F' a b) (k : Chg F' F2 b c) : Chg F F2 a c :=
  ⟨k.os.trans h.os, k.tape.trans h.tape, k.output.trans h.output, Nat.le_trans h.size k.size,
   fun i hi hF => (k.block i (Nat.lt_of_lt_of_le hi h.size) (fun e => (h.fresh i e).elim hF (fun h2 => by omega))).trans (h.block i hi hF),
   fun i hi => (k.fresh i hi).elim (fun e => h.fresh i e) (fun e => .inr (Nat.le_trans h.size e))⟩
theorem Chg.of_below {F : List Nat} {w w' : World} (h : Below w.heap.size w w') : Chg F F w w' := ⟨h.os, h.tape, h.output, h.size, fun k hk _ => h.block k hk, fun _ h => .inl h⟩
theorem Chg.below {F F' : List Nat} {B : Nat} {a w w' : World} (h : Chg F F' w w') (hb : Below B a w) (hB : B ≤ w.heap.size) (hF : ∀ k ∈ F, B ≤ k) : Below B a w' :=
  hb.trans ⟨h.os, h.tape, h.output, h.size, fun k hk => h.block k (by omega) (fun e => by have := hF k e; omega)⟩
theorem Chg.high {F F' : List Nat} {B : Nat} {w w' : World} (h : Chg F F' w w') (hB : B ≤ w.heap.size) (hF : ∀ k ∈ F, B ≤ k) : ∀ k ∈ F', B ≤ k := fun k hk => (h.fresh k hk).elim (hF k) (fun e => by omega)
theorem Chg.drew {F F' : List Nat} {w w' : World} (h : Chg F F' w w') : Chg F F' w w'.drew := ⟨h.os, h.tape, h.output, h.size, h.block, h.fresh⟩
theorem Chg.of_drew {F F' : List Nat} {w w' : World} (h : Chg F F' w.drew w') : Chg F F' w w' := ⟨h.os, h.tape, h.output, h.size, h.block, h.fresh⟩
theorem Chg.left {F F' : List Nat} {w w' : World} (h : Chg F F' w w') (G : List Nat) : Chg (F ++ G) (F' ++ G) w w' :=
  ⟨h.os, h.tape, h.output, h.size, fun k hk hn => h.block k hk (fun e => hn (List.mem_append.2 (.inl e))), fun k hk => (List.mem_append.1 hk).elim (fun e => (h.fresh k e).imp (fun e => List.mem_append.2 (.inl e)) id) (fun e => .inl (List.mem_append.2 (.inr e)))⟩
theorem Chg.right {G G' : List Nat} {w w' : World} (h : Chg G G' w w') (F : List Nat) : Chg (F ++ G) (F ++ G') w w' :=
  ⟨h.os, h.tape, h.output, h.size, fun k hk hn => h.block k hk (fun e => hn (List.mem_append.2 (.inr e))), fun k hk => (List.mem_append.1 hk).elim (fun e => .inl (List.mem_append.2 (.inl e))) (fun e => (h.fresh k e).imp (fun e => List.mem_append.2 (.inr e)) id)⟩
theorem base0 {w : World} {base E m n : Nat} {v : Value} {xs : List Value} (h : w.ownsRow base E m v n xs) : w.ownsRow 0 E m v n xs := by
  refine ⟨h.1, ?_⟩
  rcases h.2 with h2 | ⟨g, cap, cur, e, hb, hg, hr⟩
  · exact .inl h2
  · exact .inr ⟨g, cap, cur, e, Nat.zero_le _, hg, hr⟩
theorem own_form {w : World} {base E m n : Nat} {v : Value} {xs : List Value} (h : w.ownsRow base E m v n xs) : ∃ (q : Option Addr) (c : Nat), v = .slice q n c := by
  rcases h.2 with ⟨rfl, hx⟩ | ⟨g, cap, cur, e, _⟩
  · have := h.1
    subst hx
    exact ⟨none, 0, rfl⟩
  · exact ⟨_, _, e⟩
theorem own_some {w : World} {base E m n : Nat} {v : Value} {xs : List Value} (h : w.ownsRow base E m v n xs) (hn : 0 < n) : ∃ (g c : Nat), v = .slice (some ⟨g, 0, none⟩) n c ∧ n ≤ c := by
  rcases h.2 with ⟨rfl, hx⟩ | ⟨g, cap, cur, e, _, _, hc, _⟩
  · exact absurd hx (by omega)
  · exact ⟨g, cap, e, hc⟩
theorem own_head {w : World} {base E m n : Nat} {v : Value} {xs : List Value} {g : Nat} (h : w.ownsRow base E m v n xs) (hg : v.ownBlock = some g) : ∃ cur, w.heap[g]? = some (.cells cur E (0, 0)) := by
  rcases h.2 with ⟨rfl, _⟩ | ⟨g', cap, cur, rfl, _, hh, _⟩
  · simp [Value.ownBlock] at hg
  · simp [Value.ownBlock] at hg
    subst hg
    exact ⟨cur, hh⟩
theorem own_other {w w' : World} {base E m n : Nat} {v : Value} {xs : List Value} (h : w.ownsRow base E m v n xs) (hb : ∀ g, v.ownBlock = some g → w'.heap[g]? = w.heap[g]?) : w'.ownsRow base E m v n xs := by
  refine ⟨h.1, ?_⟩
  rcases h.2 with h2 | ⟨g, cap, cur, rfl, hb2, hg, hr⟩
  · exact .inl h2
  · exact .inr ⟨g, cap, cur, rfl, hb2, (hb g rfl).trans hg, hr⟩
theorem lt_block {w : World} {g : Nat} {o : Obj} (h : w.heap[g]? = some o) : g < w.heap.size := (Array.getElem?_eq_some_iff.1 h).1

/-- The names, as values. -/
def strs (L : List ByteArray) : List Value := L.map Value.string
theorem strs_len (L : List ByteArray) : (strs L).length = L.length := by unfold strs; simp
theorem strs_get (L : List ByteArray) (i : Nat) (S : ByteArray) (h : L[i]? = some S) : (strs L)[i]? = some (.string S) := by unfold strs; rw [List.getElem?_map, h]; rfl
theorem strs_snoc (L : List ByteArray) (S : ByteArray) : strs (L ++ [S]) = strs L ++ [.string S] := by unfold strs; simp
theorem strs_append (L M : List ByteArray) : strs (L ++ M) = strs L ++ strs M := by unfold strs; simp
theorem strs_one (L : List ByteArray) : ∀ v ∈ strs L, v.oneCell' = true := by
  intro v hv
  obtain ⟨x, _, rfl⟩ := List.mem_map.1 hv
  rfl
theorem info9 : (Tryd.prog.info? 9).map (fun i => (i.zero, i.size, i.bytes)) = some (some (.string ⟨#[]⟩), 1, 16) := by kernel_rfl
/-- A value that reads as this row of names. -/
def Rf (w : World) (v : Value) (L : List ByteArray) : Prop := w.ownsRow 0 9 1 v L.length (strs L)
theorem Rf.below {w w' : World} {v : Value} {L : List ByteArray} (h : Rf w v L) (hb : Below w.heap.size w w') : Rf w' v L := own_below h hb
theorem Rf.other {w w' : World} {v : Value} {L : List ByteArray} (h : Rf w v L) (hb : ∀ g, v.ownBlock = some g → w'.heap[g]? = w.heap[g]?) : Rf w' v L := own_other h hb
theorem Rf.form {w : World} {v : Value} {L : List ByteArray} (h : Rf w v L) : ∃ q c, v = .slice q L.length c := own_form h
theorem Rf.nil_ (w : World) : Rf w (.slice none 0 0) [] := World.ownsRow_nil _ _ _ _
theorem Rf.lt {w : World} {v : Value} {L : List ByteArray} (h : Rf w v L) : ∀ g, v.ownBlock = some g → g < w.heap.size := fun g hg => by
  obtain ⟨cur, hc⟩ := own_head h hg; exact lt_block hc
theorem Rf.at {w : World} {v : Value} {L : List ByteArray} (h : Rf w v L) {k : Nat} {S : ByteArray} (hk : L[k]? = some S) : ∃ b c, v = .slice (some ⟨b, 0, none⟩) L.length c ∧ L.length ≤ c ∧ w.cell? ⟨b, k, none⟩ = some (.string S) := by
  have hlt : k < L.length := (List.getElem?_eq_some_iff.1 hk).1
  obtain ⟨b, c, e, hc⟩ := own_some h (by omega)
  subst e
  have hr : w.ownsRow 0 9 1 (.slice (some ⟨b, 0, none⟩) L.length c) L.length (strs L) := h
  have a1 := hr.cellAt k (by omega)
  rw [strs_get L k S hk] at a1
  exact ⟨b, c, rfl, hc, a1⟩
/-- Block g holds a table. -/
structure Tb0 (w : World) (g : Nat) (v : Value) (mb : Nat) (L : List ByteArray) : Prop where
  hd : w.heap[g]? = some (.cells #[v, .map (some mb)] 49 (0, 0))
  row : Rf w v L
  map : Frs w mb L
  ok : Okn L
def foot (g : Nat) (v : Value) (mb : Nat) : List Nat := g :: mb :: v.ownBlock.toList
/-- Block g holds a table; F are its blocks. -/
def Tb (w : World) (g : Nat) (F : List Nat) (L : List ByteArray) : Prop := ∃ v mb, Tb0 w g v mb L ∧ F = foot g v mb
theorem ne_of_ty {w : World} {a b : Nat} {cs ds : Array Value} {t u : Nat} {fr fs : Nat × Nat} (h : w.heap[a]? = some (.cells cs t fr)) (k : w.heap[b]? = some (.cells ds u fs)) (ht : t ≠ u) : a ≠ b := by
  rintro rfl
  rw [h] at k
  cases k
  exact ht rfl
theorem ne_of_map {w : World} {a b : Nat} {cs : Array Value} {t : Nat} {fr : Nat × Nat} {es : Array MapEntry} {c : Nat} (h : w.heap[a]? = some (.cells cs t fr)) (k : w.heap[b]? = some (.map es c)) : a ≠ b := by
  rintro rfl
  rw [h] at k
  cases k
section
variable {w w' : World} {g mb : Nat} {v : Value} {L : List ByteArray}
theorem Tb0.lt (h : Tb0 w g v mb L) : g < w.heap.size := lt_block h.hd
theorem Tb0.c0 (h : Tb0 w g v mb L) : w.cell? ⟨g, 0, none⟩ = some v := by rw [cell_of_row w g 0 _ _ _ h.hd]; rfl
theorem Tb0.c1 (h : Tb0 w g v mb L) : w.cell? ⟨g, 1, none⟩ = some (.map (some mb)) := by rw [cell_of_row w g 1 _ _ _ h.hd]; rfl
theorem Tb0.fz (h : Tb0 w g v mb L) : w.frozen? ⟨g, 0, none⟩ = false := frozen_of_row w g 0 _ _ h.hd
theorem Tb0.form (h : Tb0 w g v mb L) : ∃ q c, v = .slice q L.length c := h.row.form
theorem Tb0.ne (h : Tb0 w g v mb L) : ∀ k, v.ownBlock = some k → g ≠ k := fun k hk => by obtain ⟨cur, hc⟩ := own_head h.row hk; exact ne_of_ty h.hd hc (by decide)
theorem Tb0.nem (h : Tb0 w g v mb L) : g ≠ mb := by obtain ⟨es, c, hm⟩ := h.map.isMap; exact ne_of_map h.hd hm
theorem Tb0.nev (h : Tb0 w g v mb L) : ∀ k, v.ownBlock = some k → k ≠ mb := fun k hk => by
  obtain ⟨cur, hc⟩ := own_head h.row hk
  obtain ⟨es, c, hm⟩ := h.map.isMap; exact ne_of_map hc hm
theorem Tb0.lts (h : Tb0 w g v mb L) : ∀ k ∈ foot g v mb, k < w.heap.size := by
  intro k hk
  unfold foot at hk
  simp only [List.mem_cons, Option.mem_toList] at hk
  rcases hk with rfl | rfl | hk
  · exact h.lt
  · exact h.map.lt
  · exact h.row.lt k hk
theorem Tb0.tb (h : Tb0 w g v mb L) : Tb w g (foot g v mb) L := ⟨_, _, h, rfl⟩
theorem Tb0.same (h : Tb0 w g v mb L) (hs : ∀ k ∈ foot g v mb, w'.heap[k]? = w.heap[k]?) : Tb0 w' g v mb L :=
  ⟨(hs g (by simp [foot])).trans h.hd, h.row.other (fun k hk => hs k (by simp [foot, hk])), h.map.same (hs mb (by simp [foot])), h.ok⟩
theorem Tb0.stay {F F' : List Nat} (h : Tb0 w g v mb L) (hc : Chg F F' w w') (hF : ∀ k ∈ foot g v mb, k ∉ F) : Tb0 w' g v mb L := h.same (fun k hk => hc.block k (h.lts k hk) (hF k hk))
theorem Tb0.below (h : Tb0 w g v mb L) (hb : Below w.heap.size w w') : Tb0 w' g v mb L := h.same (fun k hk => hb.block k (h.lts k hk))
end
section
variable {w w' : World} {g : Nat} {F : List Nat} {L : List ByteArray}
theorem Tb.ok (h : Tb w g F L) : Okn L := by obtain ⟨v, mb, h, _⟩ := h; exact h.ok
theorem Tb.lt (h : Tb w g F L) : ∀ k ∈ F, k < w.heap.size := by obtain ⟨v, mb, h, rfl⟩ := h; exact h.lts
theorem Tb.stay {F1 F' : List Nat} (h : Tb w g F L) (hc : Chg F1 F' w w') (hF : ∀ k ∈ F, k ∉ F1) : Tb w' g F L := by
  obtain ⟨v, mb, h, rfl⟩ := h
  exact ⟨v, mb, h.stay hc hF, rfl⟩
theorem Tb.below (h : Tb w g F L) (hb : Below w.heap.size w w') : Tb w' g F L := by
  obtain ⟨v, mb, h, rfl⟩ := h
  exact ⟨v, mb, h.below hb, rfl⟩
end
/-- What a call makes of a table. -/
def Went (F : List Nat) (g : Nat) (L : List ByteArray) (w w' : World) : Prop := ∃ F', Tb w' g F' L ∧ Chg F F' w w'
theorem Went.refl {w : World} {F : List Nat} {g : Nat} {L : List ByteArray} (h : Tb w g F L) : Went F g L w w := ⟨F, h, Chg.refl _ _⟩
theorem Went.below {w w' : World} {F : List Nat} {g : Nat} {L : List ByteArray} (h : Tb w g F L) (hb : Below w.heap.size w w') : Went F g L w w' := ⟨F, h.below hb, Chg.of_below hb⟩
theorem Went.pre {w w1 w' : World} {F : List Nat} {g : Nat} {L : List ByteArray} (hb : Below w.heap.size w w1) (h : Went F g L w1 w') : Went F g L w w' := by
  obtain ⟨F', h1, h2⟩ := h
  exact ⟨F', h1, (Chg.of_below hb).trans h2⟩
end Go.Proofs.YtnagdjgicphknaaDoor
