/- The digits of a number are the row of its amount, with its sign beside it. -/
import Derived.Test.YtfjoahbboglgfaaDoorMinus
namespace Go.Proofs.YtfjoahbboglgfaaDoor
open Go.RowKit

theorem blk_cell {w : World} {g : Nat} {cs : Array Value} {t : TypeId} (h : w.heap[g]? = some (.cells cs t (0, 0))) (i : Nat) : w.cell? ⟨g, i, none⟩ = cs[i]? := cell_of_row w g i cs t (0, 0) h
theorem blk_frozen {w : World} {g : Nat} {cs : Array Value} {t : TypeId} (h : w.heap[g]? = some (.cells cs t (0, 0))) (i : Nat) : w.frozen? ⟨g, i, none⟩ = false := by simp [World.frozen?, h]
theorem blk_lt {w : World} {g : Nat} {o : Obj} (h : w.heap[g]? = some o) : g < w.heap.size := by
  rcases Nat.lt_or_ge g w.heap.size with hl | hl
  · exact hl
  · rw [Array.getElem?_eq_none hl] at h; cases h
theorem blk_set {w : World} {g : Nat} {cs : Array Value} {t : TypeId} (h : w.heap[g]? = some (.cells cs t (0, 0))) (i : Nat) (u : Value) : (w.setCell ⟨g, i, none⟩ u).heap[g]? = some (.cells (cs.setIfInBounds i u) t (0, 0)) := by
  simp [World.setCell, Array.getElem?_modify, h]
theorem blk_far {w : World} {g : Nat} {o : Obj} (h : w.heap[g]? = some o) {p : Addr} (hp : g ≠ p.block) (u : Value) : (w.setCell p u).heap[g]? = some o := (Below.heap_setCell w p u g hp).trans h
theorem blk_alloc {w : World} {g : Nat} {o : Obj} (h : w.heap[g]? = some o) (o' : Obj) : (w.alloc o').heap[g]? = some o := (Below.heap_alloc w o' g (blk_lt h)).trans h

/-- What the loop's head knows: the number that is left, the digits that were taken off. -/
structure OfRel (w wr : World) (a q : Int) (v : Value) (out : List Nat) : Prop where
  res : wr.heap[w.heap.size]? = some (.cells #[.bool false, .slice none 0 0] 24 (0, 0))
  num : wr.heap[w.heap.size + 1]? = some (.cells #[.bool (decide (a < 0)), v] 24 (0, 0))
  own : Own wr (w.heap.size + 2) v out
  dig : Dig out
  len : out.length ≤ 20
  last : q = 0 → Canon out
  sum : val out + 10 ^ out.length * q.natAbs = a.natAbs
  neg : a < 0 → q ≤ 0
  pos : 0 ≤ a → 0 ≤ q
  below : Below w.heap.size w wr

theorem pow_ge (n : Nat) (h : 20 ≤ n) : 10 ^ 20 ≤ 10 ^ n := Nat.pow_le_pow_right (by omega) h

theorem OfRel.short {w wr : World} {a q : Int} {v : Value} {out : List Nat} (h : OfRel w wr a q v out) (ha : a.natAbs ≤ 9223372036854775808) (hq : q ≠ 0) : out.length ≤ 19 := by
  rcases Nat.lt_or_ge out.length 20 with hl | hl
  · omega
  · have h1 := pow_ge out.length hl
    have h2 := h.sum
    have h3 : 10 ^ out.length * 1 ≤ 10 ^ out.length * q.natAbs := Nat.mul_le_mul_left _ (by omega)
    have h4 : (10 : Nat) ^ 20 = 100000000000000000000 := by decide
    omega

theorem OfRel.next {w wr w1 : World} {a q q' : Int} {v v' : Value} {out : List Nat} {d : Nat} {z : Int} (h : OfRel w wr a q v out) (ha : a.natAbs ≤ 9223372036854775808) (hq : q ≠ 0)
    (hq' : q'.natAbs = q.natAbs / 10) (hd : d = q.natAbs % 10) (hn : q ≤ 0 → q' ≤ 0) (hp : 0 ≤ q → 0 ≤ q')
    (hres : w1.heap[w.heap.size]? = some (.cells #[.bool false, .slice none 0 0] 24 (0, 0)))
    (hnum : w1.heap[w.heap.size + 1]? = some (.cells #[.bool (decide (a < 0)), v'] 24 (0, 0)))
    (hown : w1.ownsRow (w.heap.size + 2) 3 1 v' (out.length + 1) (out.map toV ++ [.int .i64 z])) (hz : z = (d : Int)) (hb : Below w.heap.size w w1) :
    OfRel w w1 a q' v' (out ++ [d]) := by
  have hs := h.short ha hq
  have hmd : q.natAbs = d + 10 * (q.natAbs / 10) := by omega
  refine ⟨hres, hnum, Own.snoc hown hz, h.dig.append (Dig.one (by omega)), by simp; omega, fun h0 => ⟨h.dig.append (Dig.one (by omega)), ?_⟩, ?_, fun ha => hn (h.neg ha), fun ha => hp (h.pos ha), hb⟩
  · rw [List.getLast?_concat]
    have : d ≠ 0 := by omega
    simpa using this
  · rw [val_snoc, List.length_append, List.length_singleton, Nat.pow_succ, hq', ← h.sum, Nat.mul_assoc, Nat.add_assoc, ← Nat.mul_add, ← hmd]

theorem tmod_neg (q : Int) (h : q < 0) : q.tmod 10 = -((q.natAbs % 10 : Nat) : Int) := by
  obtain ⟨m, rfl⟩ : ∃ m : Nat, q = -(m : Int) := ⟨q.natAbs, by omega⟩
  rw [Int.neg_tmod, Int.natAbs_neg, Int.natAbs_natCast]
  rfl
theorem tdiv_neg (q : Int) (h : q < 0) : q.tdiv 10 = -((q.natAbs / 10 : Nat) : Int) := by
  obtain ⟨m, rfl⟩ : ∃ m : Nat, q = -(m : Int) := ⟨q.natAbs, by omega⟩
  rw [Int.neg_tdiv, Int.natAbs_neg, Int.natAbs_natCast]
  rfl
theorem below2 (w : World) (o o' : Obj) : Below w.heap.size w ((w.alloc o).alloc o') := ((Below.refl _ _).alloc (Nat.le_refl _) o).alloc (by simp) o'

/-- A store below all that the call owns leaves a row as it is. -/
theorem Row.far {w : World} {base : Nat} {C : Option Addr} {cc : Nat} {out : List Nat} (h : Own w base (.slice C out.length cc) out) {p : Addr} (hp : p.block < base) (u : Value) : Own (w.setCell p u) base (.slice C out.length cc) out :=
  ownsRow_setCell_below h hp u
theorem own_shape {w : World} {base : Nat} {e : TypeId} {size : Nat} {v : Value} {n : Nat} {xs : List Value} (h : w.ownsRow base e size v n xs) : ∃ A c, v = .slice A n c := by
  rcases h.2 with ⟨rfl, rfl⟩ | ⟨g, cap, cur, rfl, _⟩
  · exact ⟨none, 0, rfl⟩
  · exact ⟨_, _, rfl⟩
theorem Own.row_of {w : World} {base : Nat} {C : Option Addr} {cc : Nat} {out : List Nat} (h : Own w base (.slice C out.length cc) out) : Row w C cc out := by
  obtain ⟨A, c, he, hr⟩ := h.row
  injection he with h1 _ h2
  subst h1 h2
  exact hr

set_option maxHeartbeats 1600000 in
set_option maxRecDepth 100000 in
theorem of_any (a : Int) (w : World) (h1 : -9223372036854775808 ≤ a) (h2 : a ≤ 9223372036854775807) :
    Calls Tryd.prog 10 #[.int .i64 a] w fun e w' => (∃ C c ds, e = .returned (.agg #[.bool (decide (a < 0)), .slice C ds.length c]) ∧ Row w' C c ds ∧ Canon ds ∧ val ds = a.natAbs) ∧ Below w.heap.size w w' := by
  obtain ⟨i0, hi, hz0, hz1, hz2⟩ := info_parts infoInt
  go_enter Tryd.func10, Tryd.ntmps10
  go_wp2_with fail
  go_loopw [0] (fun iv wr => ∃ q v out, iv = .int .i64 q ∧ OfRel w wr a q v out) (fun iv _ => (intOf iv).natAbs)
  case atStart =>
    exact ⟨a, .slice none 0 0, [], rfl, blk_alloc (heap_alloc_new w _) _, by simpa using heap_alloc_new (w.alloc (.cells #[.bool false, .slice none 0 0] 24)) _, Own.nil _ _, Dig.nil, by simp, fun _ => Canon.nil, by simp [val], by omega, by omega, below2 _ _ _⟩
  case round =>
    obtain ⟨q, v, out, rfl, hr⟩ := hrel
    have c0 := blk_cell hr.num 0
    have c1 := blk_cell hr.num 1
    have r0 := blk_cell hr.res 0
    have r1 := blk_cell hr.res 1
    have f0 := blk_frozen hr.num 0
    have f1 := blk_frozen hr.num 1
    have g0 := blk_frozen hr.res 0
    have g1 := blk_frozen hr.res 1
    simp at c0 c1 r0 r1
    have hlen := hr.len
    have HR := Lib.hid hr
    have hlo : -9223372036854775808 ≤ q := by have := hr.sum; have h3 : 10 ^ out.length * q.natAbs ≥ 1 * q.natAbs := Nat.mul_le_mul_right _ (Nat.pow_pos (by omega)); omega
    have hhi : q ≤ 9223372036854775807 := by
      rcases Int.lt_or_le a 0 with hn | hn
      · have := hr.neg hn; omega
      · have := hr.sum; have h3 : 10 ^ out.length * q.natAbs ≥ 1 * q.natAbs := Nat.mul_le_mul_right _ (Nat.pow_pos (by omega)); omega
    have hown := hr.own
    clear hr
    by_cases hq : q = 0
    · subst hq
      obtain ⟨C, cc, rfl, hrow⟩ := hown.row
      clear hown
      go_wp2_with fail
      refine bodyPost_ret (v := .agg #[.bool (decide (a < 0)), .slice C out.length cc]) ?_ rfl ⟨⟨C, cc, out, rfl, ?_, HR.out.last rfl, ?_⟩, ?_⟩
      · have e0 := blk_cell (blk_set HR.out.res 0 (.bool (decide (a < 0)))) 0
        have e1 := blk_cell (blk_set (blk_set HR.out.res 0 (.bool (decide (a < 0)))) 1 (.slice C out.length cc)) 1
        simp at e0 e1
        simp [results, Tryd.results10, go_sem, e0, e1]
      · exact (Row.far (Row.far HR.out.own (by simp) _) (by simp) _).row_of
      · exact (by have := HR.out.sum; simpa using this)
      · exact (HR.out.below.setCell (Nat.le_refl _) _).setCell (Nat.le_refl _) _
    · have hq1 : q ≠ 0 := hq
      have hqb : (q != 0) = true := by simpa using hq
      obtain ⟨d, HD⟩ : ∃ d : Nat, Hid (d = q.natAbs % 10) := ⟨_, rfl⟩
      have hd : d < 10 := by have := HD.out; omega
      have hsz := blk_lt HR.out.num
      have HB := Lib.hid hown.block
      have HOL : Hid (out.length ≤ 20) := hlen
      unfold Own at hown
      rcases Int.lt_or_le q 0 with hn | hn
      · obtain ⟨t, HT⟩ : ∃ t : Int, Hid (q.tmod 10 = t) := ⟨_, rfl⟩
        have ht : t = -(d : Int) := by rw [← HT.out, tmod_neg q hn, HD.out]
        have ht1 := HT.out
        obtain ⟨q2, HQ⟩ : ∃ q2 : Int, Hid (q.tdiv 10 = q2) := ⟨_, rfl⟩
        have hq2 : q2 = -((q.natAbs / 10 : Nat) : Int) := by rw [← HQ.out, tdiv_neg q hn]
        have hq2b : -9223372036854775808 ≤ q2 := by omega
        have hq2c : q2 ≤ 0 := by omega
        have hq3 := HQ.out
        have HQ2 := Lib.hid hq2
        clear hq2
        by_cases hd0 : d = 0
        · subst hd0
          obtain rfl : t = 0 := by omega
          clear ht
          go_wp2_with (at_builtin; refine wpList_append_own _ rfl _ _ 22 rfl (w.heap.size + 2) 3 i0 (.int .i64 0) 1 8 Tryd.underlying22 hi hz0 hz1 hz2 rfl (by decide) _ _ _ rfl (hown.alloc _) ⟨wr.heap.size, 0, none⟩ 1 1 [.int .i64 (0)] rfl rfl (one_cells _ _ _) ?c2 ?c3 ?c4 ?c5 ?_)
          case c2 => intro u hu; simp at hu; subst hu; rfl
          case c3 => unfold maxLen; omega
          case c4 => omega
          case c5 => simp; omega
          intro v' w1 hown' hgrow _
          obtain ⟨A', c', rfl⟩ := own_shape hown'
          have hres1 := (hgrow.block w.heap.size (by simp; omega) (fun e => by have := HB.out _ e.symm; omega)).trans (blk_alloc HR.out.res _)
          have hnum1 := (hgrow.block (w.heap.size + 1) (by simp; omega) (fun e => by have := HB.out _ e.symm; omega)).trans (blk_alloc HR.out.num _)
          have k1 := blk_cell hnum1 1
          have kf := blk_frozen hnum1 1
          simp at k1
          have R := Lib.hid (HR.out.next (by omega) hq (q' := q2) (d := 0) (by have := HQ2.out; omega) HD.out (fun _ => hq2c) (fun h => by omega) (blk_far hres1 (p := ⟨w.heap.size + 1, 1, none⟩) (by simp) _) (by simpa using blk_set hnum1 1 (.slice A' (out.length + 1) c')) (ownsRow_setCell_below hown' (by simp) _) (by omega) (((HR.out.below.alloc (by omega) _).grown hgrow (by simp; omega) (fun k hk => by have := HB.out k hk; omega)).setCell (by simp) _))
          have HM := Lib.hid hnum1
          have HS := Lib.hid hres1
          clear hown' hgrow hown HB HR HM HS hnum1 hres1 c0 c1 r0 r1 f0 f1 g0 g1
          go_wp2_with fail
          go_roundw
          case rel => exact ⟨_, _, _, rfl, R.out⟩
          case measure => first | (have hh := HQ2.out; simp [intOf]; omega) | (simp [intOf]; omega)
        · have htn : t < 0 := by omega
          have hte : -t = (d : Int) := by omega
          have htl : -9 ≤ t := by omega
          clear ht
          go_wp2_with (at_builtin; refine wpList_append_own _ rfl _ _ 22 rfl (w.heap.size + 2) 3 i0 (.int .i64 0) 1 8 Tryd.underlying22 hi hz0 hz1 hz2 rfl (by decide) _ _ _ rfl (hown.alloc _) ⟨wr.heap.size, 0, none⟩ 1 1 [.int .i64 ((d : Int))] rfl rfl (one_cells _ _ _) ?c2 ?c3 ?c4 ?c5 ?_)
          case c2 => intro u hu; simp at hu; subst hu; rfl
          case c3 => unfold maxLen; omega
          case c4 => omega
          case c5 => simp; omega
          intro v' w1 hown' hgrow _
          obtain ⟨A', c', rfl⟩ := own_shape hown'
          have hres1 := (hgrow.block w.heap.size (by simp; omega) (fun e => by have := HB.out _ e.symm; omega)).trans (blk_alloc HR.out.res _)
          have hnum1 := (hgrow.block (w.heap.size + 1) (by simp; omega) (fun e => by have := HB.out _ e.symm; omega)).trans (blk_alloc HR.out.num _)
          have k1 := blk_cell hnum1 1
          have kf := blk_frozen hnum1 1
          simp at k1
          have R := Lib.hid (HR.out.next (by omega) hq (q' := q2) (d := d) (by have := HQ2.out; omega) HD.out (fun _ => hq2c) (fun h => by omega) (blk_far hres1 (p := ⟨w.heap.size + 1, 1, none⟩) (by simp) _) (by simpa using blk_set hnum1 1 (.slice A' (out.length + 1) c')) (ownsRow_setCell_below hown' (by simp) _) (by omega) (((HR.out.below.alloc (by omega) _).grown hgrow (by simp; omega) (fun k hk => by have := HB.out k hk; omega)).setCell (by simp) _))
          have HM := Lib.hid hnum1
          have HS := Lib.hid hres1
          clear hown' hgrow hown HB HR HM HS hnum1 hres1 c0 c1 r0 r1 f0 f1 g0 g1
          go_wp2_with fail
          go_roundw
          case rel => exact ⟨_, _, _, rfl, R.out⟩
          case measure => first | (have hh := HQ2.out; simp [intOf]; omega) | (simp [intOf]; omega)
      · have hn1 : 0 < q := by omega
        have hde : q % 10 = (d : Int) := by have := HD.out; omega
        go_wp2_with (at_builtin; refine wpList_append_own _ rfl _ _ 22 rfl (w.heap.size + 2) 3 i0 (.int .i64 0) 1 8 Tryd.underlying22 hi hz0 hz1 hz2 rfl (by decide) _ _ _ rfl (hown.alloc _) ⟨wr.heap.size, 0, none⟩ 1 1 [.int .i64 ((d : Int))] rfl rfl (one_cells _ _ _) ?c2 ?c3 ?c4 ?c5 ?_)
        case c2 => intro u hu; simp at hu; subst hu; rfl
        case c3 => unfold maxLen; omega
        case c4 => omega
        case c5 => simp; omega
        intro v' w1 hown' hgrow _
        obtain ⟨A', c', rfl⟩ := own_shape hown'
        have hres1 := (hgrow.block w.heap.size (by simp; omega) (fun e => by have := HB.out _ e.symm; omega)).trans (blk_alloc HR.out.res _)
        have hnum1 := (hgrow.block (w.heap.size + 1) (by simp; omega) (fun e => by have := HB.out _ e.symm; omega)).trans (blk_alloc HR.out.num _)
        have k1 := blk_cell hnum1 1
        have kf := blk_frozen hnum1 1
        simp at k1
        have R := Lib.hid (HR.out.next (by omega) hq (q' := q / 10) (d := d) (by omega) HD.out (fun h => by omega) (fun h => by omega) (blk_far hres1 (p := ⟨w.heap.size + 1, 1, none⟩) (by simp) _) (by simpa using blk_set hnum1 1 (.slice A' (out.length + 1) c')) (ownsRow_setCell_below hown' (by simp) _) (by omega) (((HR.out.below.alloc (by omega) _).grown hgrow (by simp; omega) (fun k hk => by have := HB.out k hk; omega)).setCell (by simp) _))
        have HM := Lib.hid hnum1
        have HS := Lib.hid hres1
        clear hown' hgrow hown HB HR HM HS hnum1 hres1 c0 c1 r0 r1 f0 f1 g0 g1
        go_wp2_with fail
        go_roundw
        case rel => exact ⟨_, _, _, rfl, R.out⟩
        case measure => simp [intOf]; omega

end Go.Proofs.YtfjoahbboglgfaaDoor
