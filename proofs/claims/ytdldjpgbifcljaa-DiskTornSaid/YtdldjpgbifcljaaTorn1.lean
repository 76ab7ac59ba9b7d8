/- DiskTorn amid its first loop. -/
import Derived.Test.YtdldjpgbifcljaaTorn0
import Derived.Deep.QuietTactic
import Derived.BigQuiet
import Derived.Deep.CutBlock
import Derived.Deep.DeepCutAuto
namespace Go.Proofs.Ytdldjpgbifcljaa
open Go.RowKit

theorem tops_below {w w' : World} {p : Option Addr} {n : Nat} {f : Nat → Opv} (h : Ops w p n f) (hb : Below w.heap.size w w') : Ops w' p n f := fun hn => by
  obtain ⟨b, o, e, hc⟩ := h hn
  exact ⟨b, o, e, fun r hr => (hc r hr).below hb⟩
theorem info4 : (Try.prog.info? 4).map (fun i => (i.zero, i.size, i.bytes)) = some (some (.bool false), 1, 1) := by kernel_rfl
def bools (n : Nat) (f : Nat → Bool) : List Value := (List.range n).map fun k => .bool (f k)
theorem bools_get (n : Nat) (f : Nat → Bool) (k : Nat) (h : k < n) : (bools n f)[k]? = some (.bool (f k)) := by
  unfold bools; rw [List.getElem?_map, List.getElem?_range h]; rfl
theorem bools_len (n : Nat) (f : Nat → Bool) : (bools n f).length = n := by unfold bools; simp
theorem bools_set (n : Nat) (f : Nat → Bool) (k : Nat) (b : Bool) : (bools n f).set k (.bool b) = bools n (fun j => if j = k then b else f j) := by
  apply List.ext_getElem?
  intro i
  rw [List.getElem?_set, bools_len]
  by_cases hi : i < n
  · rw [bools_get _ _ _ hi, bools_get _ _ _ hi]
    by_cases e : k = i
    · subst e; simp [hi]
    · rw [if_neg e, if_neg (fun h => e h.symm)]
  · rw [List.getElem?_eq_none (by rw [bools_len]; omega), List.getElem?_eq_none (by rw [bools_len]; omega)]
    split
    · rw [if_neg (by omega)]
    · rfl
theorem bools_congr {n : Nat} {f g : Nat → Bool} (h : ∀ k, k < n → f k = g k) : bools n f = bools n g := by
  unfold bools
  exact List.map_congr_left (fun k hk => by rw [h k (List.mem_range.1 hk)])
theorem bools_false (n : Nat) : bools n (fun _ => false) = List.replicate n (.bool false) := by
  unfold bools; rw [List.map_const', List.length_range]
theorem ats_get' (l : List Wr) (k : Nat) (h : k < l.length) : (ats l)[k]? = some (.int .i64 ((wr l k).1 : Int)) := by
  have e : wr l k = l[k] := by unfold wr; rw [List.getD_eq_getElem?_getD, List.getElem?_eq_getElem h]; rfl
  unfold ats
  rw [List.getElem?_map, List.getElem?_eq_getElem h, e]; rfl
/-- The law's row, list and step amid. -/
structure TB (W wr : World) (rb kb n c : Nat) (row : List Wr) (o : Opv) (kf : Nat → Bool) : Prop where
  x : BoxO wr W.heap.size o
  row : wr.ownsRow 0 3 1 (.slice (some ⟨rb, 0, none⟩) n c) n (ats row)
  kb : wr.ownsRow 0 4 1 (.slice (some ⟨kb, 0, none⟩) n n) n (bools n kf)
section
variable {W wr w' : World} {rb kb n c : Nat} {row : List Wr} {o : Opv} {kf : Nat → Bool}
theorem TB.le (h : TB W wr rb kb n c row o kf) (hb : Below wr.heap.size wr w') : TB W w' rb kb n c row o kf := ⟨h.x.below hb, own_below h.row hb, own_below h.kb hb⟩
theorem TB.chg {F F' : List Nat} (h : TB W wr rb kb n c row o kf) (hc : Chg F F' wr w') (hT : Typed wr F) : TB W w' rb kb n c row o kf := ⟨h.x.chg hc hT, own_chg h.row hc hT (by decide), own_chg h.kb hc hT (by decide)⟩
theorem TB.head (h : TB W wr rb kb n c row o kf) : ∃ cur, wr.heap[kb]? = some (.cells cur 4 (0, 0)) := own_head h.kb rfl
theorem TB.set (h : TB W wr rb kb n c row o kf) (k : Nat) (b : Bool) : TB W (wr.setCell ⟨kb, k, none⟩ (.bool b)) rb kb n c row o (fun j => if j = k then b else kf j) := by
  obtain ⟨cur, hc⟩ := h.head
  refine ⟨⟨(heap_setCell_other _ _ _ _ (ne_of_ty h.x.hd hc (by decide))).trans h.x.hd⟩, own_other h.row (fun j hj => heap_setCell_other _ _ _ _ ?_), ?_⟩
  · obtain ⟨cur2, hc2⟩ := own_head h.row hj
    exact ne_of_ty hc2 hc (by decide)
  · rw [← bools_set]; exact (h.kb.stored k _).1
theorem TB.ext (h : TB W wr rb kb n c row o kf) {kg : Nat → Bool} (he : ∀ k, k < n → kf k = kg k) : TB W wr rb kb n c row o kg := ⟨h.x, h.row, by rw [← bools_congr he]; exact h.kb⟩
theorem TB.kcell (h : TB W wr rb kb n c row o kf) (k : Nat) (hk : k < n) : wr.cell? ⟨kb, k, none⟩ = some (.bool (kf k)) ∧ wr.frozen? ⟨kb, k, none⟩ = false := by
  obtain ⟨cur, hc⟩ := h.head
  exact ⟨by rw [h.kb.cellAt k (by omega), bools_get _ _ _ hk], frozen_of_row wr kb k _ _ hc⟩
theorem TB.rcell (h : TB W wr rb kb n c row o kf) (hn : row.length = n) (k : Nat) (hk : k < n) : wr.cell? ⟨rb, k, none⟩ = some (.int .i64 ((Go.Proofs.Ytdldjpgbifcljaa.wr row k).1 : Int)) := by
  rw [h.row.cellAt k (by omega), ats_get' _ _ (by omega)]
theorem TB.kp (h : TB W wr rb kb n c row o kf) : Kp wr (some ⟨kb, 0, none⟩) n kf := fun _ => ⟨kb, 0, rfl, fun r hr => by rw [Nat.zero_add]; exact (h.kcell r hr).1⟩
/-- A disk stays where the list is stored into. -/
theorem HI.setT {g : Nat} {m : Dsk} (h : HI W wr g m) {cur : Array Value} (hc : wr.heap[kb]? = some (.cells cur 4 (0, 0))) (hk : W.heap.size ≤ kb) (k : Nat) (u : Value) : HI W (wr.setCell ⟨kb, k, none⟩ u) g m := h.set ⟨hc⟩ (by decide) hk k u
end
end Go.Proofs.Ytdldjpgbifcljaa
