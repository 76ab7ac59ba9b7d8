/- What findNumber returns where a number stands at the beginning. -/
import Derived.Test.YtpdihgmgcamgkaaFind2
set_option maxRecDepth 20000
namespace Go.Proofs.Ytpdihgmgcamgkaa
open Go.RowKit Go.Shelf
attribute [local go_sem] Oper.semAt_some

/-- What the boxes of findNumber hold: the bound, the results, the number as far as it has been read. -/
structure Boxs (B : Nat) (most : Int) (v : Nat) (W : World) : Prop where
  most : W.cell? ⟨B, 0, none⟩ = some (.int .i64 most)
  r1 : W.cell? ⟨B + 1, 0, none⟩ = some (.int .u64 0)
  f1 : W.frozen? ⟨B + 1, 0, none⟩ = false
  r2 : W.cell? ⟨B + 1 + 1, 0, none⟩ = some (.int .i64 0)
  f2 : W.frozen? ⟨B + 1 + 1, 0, none⟩ = false
  r3 : W.cell? ⟨B + 1 + 1 + 1, 0, none⟩ = some (.int .i64 0)
  f3 : W.frozen? ⟨B + 1 + 1 + 1, 0, none⟩ = false
  num : W.cell? ⟨B + 1 + 1 + 1 + 1, 0, none⟩ = some (.int .u64 (v : Int))
  f4 : W.frozen? ⟨B + 1 + 1 + 1 + 1, 0, none⟩ = false
theorem Boxs.own {lo B : Nat} {most : Int} : Own (fun (pre : List (Nat × Low)) W => Boxs B most (hv lo pre) W) := fun _ _ _ _ hs hg hr =>
  ⟨cell_kept hs.most hg hr, cell_kept hs.r1 hg hr, (frozen_kept hs.r1 hg hr).trans hs.f1, cell_kept hs.r2 hg hr, (frozen_kept hs.r2 hg hr).trans hs.f2, cell_kept hs.r3 hg hr, (frozen_kept hs.r3 hg hr).trans hs.f3, cell_kept hs.num hg hr, (frozen_kept hs.num hg hr).trans hs.f4⟩
theorem at_new (w : World) (o : Obj) (i : Nat) (h : i = w.heap.size) : (w.alloc o).heap[i]? = some o := by rw [h]; exact heap_alloc_new w o
/-- Six blocks, one behind the other. -/
def six (w : World) (A1 A2 A3 A4 A5 A6 : Obj) : World := (((((w.alloc A1).alloc A2).alloc A3).alloc A4).alloc A5).alloc A6
theorem six_at (w : World) (A1 A2 A3 A4 A5 A6 : Obj) : (six w A1 A2 A3 A4 A5 A6).heap[w.heap.size]? = some A1 ∧ (six w A1 A2 A3 A4 A5 A6).heap[w.heap.size + 1]? = some A2 ∧ (six w A1 A2 A3 A4 A5 A6).heap[w.heap.size + 1 + 1]? = some A3 ∧
    (six w A1 A2 A3 A4 A5 A6).heap[w.heap.size + 1 + 1 + 1]? = some A4 ∧ (six w A1 A2 A3 A4 A5 A6).heap[w.heap.size + 1 + 1 + 1 + 1]? = some A5 ∧ (six w A1 A2 A3 A4 A5 A6).heap[w.heap.size + 1 + 1 + 1 + 1 + 1]? = some A6 ∧ (six w A1 A2 A3 A4 A5 A6).heap.size = w.heap.size + 6 ∧ Below w.heap.size w (six w A1 A2 A3 A4 A5 A6) := by
  have h0 : (six w A1 A2 A3 A4 A5 A6).heap.size = w.heap.size + 6 := by unfold six; simp
  unfold six at h0 ⊢
  refine ⟨?_, ?_, ?_, ?_, ?_, ?_, h0, ((((((Below.refl _ _).alloc (Nat.le_refl _) _).alloc (by simp) _).alloc (by simp; omega) _).alloc (by simp; omega) _).alloc (by simp; omega) _).alloc (by simp; omega) _⟩
  · exact (heap_alloc_old (((((w.alloc A1).alloc A2).alloc A3).alloc A4).alloc A5) A6 _ (by simp; try omega)).trans ((heap_alloc_old ((((w.alloc A1).alloc A2).alloc A3).alloc A4) A5 _ (by simp; try omega)).trans ((heap_alloc_old (((w.alloc A1).alloc A2).alloc A3) A4 _ (by simp; try omega)).trans ((heap_alloc_old ((w.alloc A1).alloc A2) A3 _ (by simp; try omega)).trans ((heap_alloc_old (w.alloc A1) A2 _ (by simp; try omega)).trans (at_new (w) A1 _ rfl)))))
  · exact (heap_alloc_old (((((w.alloc A1).alloc A2).alloc A3).alloc A4).alloc A5) A6 _ (by simp; try omega)).trans ((heap_alloc_old ((((w.alloc A1).alloc A2).alloc A3).alloc A4) A5 _ (by simp; try omega)).trans ((heap_alloc_old (((w.alloc A1).alloc A2).alloc A3) A4 _ (by simp; try omega)).trans ((heap_alloc_old ((w.alloc A1).alloc A2) A3 _ (by simp; try omega)).trans (at_new (w.alloc A1) A2 _ (by simp)))))
  · exact (heap_alloc_old (((((w.alloc A1).alloc A2).alloc A3).alloc A4).alloc A5) A6 _ (by simp; try omega)).trans ((heap_alloc_old ((((w.alloc A1).alloc A2).alloc A3).alloc A4) A5 _ (by simp; try omega)).trans ((heap_alloc_old (((w.alloc A1).alloc A2).alloc A3) A4 _ (by simp; try omega)).trans (at_new ((w.alloc A1).alloc A2) A3 _ (by simp))))
  · exact (heap_alloc_old (((((w.alloc A1).alloc A2).alloc A3).alloc A4).alloc A5) A6 _ (by simp; try omega)).trans ((heap_alloc_old ((((w.alloc A1).alloc A2).alloc A3).alloc A4) A5 _ (by simp; try omega)).trans (at_new (((w.alloc A1).alloc A2).alloc A3) A4 _ (by simp)))
  · exact (heap_alloc_old (((((w.alloc A1).alloc A2).alloc A3).alloc A4).alloc A5) A6 _ (by simp; try omega)).trans (at_new ((((w.alloc A1).alloc A2).alloc A3).alloc A4) A5 _ (by simp))
  · exact at_new (((((w.alloc A1).alloc A2).alloc A3).alloc A4).alloc A5) A6 _ (by simp)
theorem boxs_six (w : World) (most : Int) (lo d o k c : Nat) :
    Boxs w.heap.size most lo (six w (.cells #[.int .i64 most] 3) (.cells #[.int .u64 0] 86) (.cells #[.int .i64 0] 3) (.cells #[.int .i64 0] 27) (.cells #[.int .u64 (lo : Int)] 86) (.cells #[.slice (some ⟨d, o, none⟩) k c] 42)) := by
  obtain ⟨h1, h2, h3, h4, h5, _⟩ := six_at w (.cells #[.int .i64 most] 3) (.cells #[.int .u64 0] 86) (.cells #[.int .i64 0] 3) (.cells #[.int .i64 0] 27) (.cells #[.int .u64 (lo : Int)] 86) (.cells #[.slice (some ⟨d, o, none⟩) k c] 42)
  exact ⟨cell_of_one h1, cell_of_one h2, free_of_one h2, cell_of_one h3, free_of_one h3, cell_of_one h4, free_of_one h4, cell_of_one h5, free_of_one h5⟩
theorem Boxs.put {B v v2 : Nat} {most : Int} {W : World} (h : Boxs B most v W) : Boxs B most v2 (W.setCell ⟨B + 1 + 1 + 1 + 1, 0, none⟩ (.int .u64 (v2 : Int))) := by
  have ne : ∀ j, j < B + 1 + 1 + 1 + 1 → (W.setCell ⟨B + 1 + 1 + 1 + 1, 0, none⟩ (.int .u64 (v2 : Int))).cell? ⟨j, 0, none⟩ = W.cell? ⟨j, 0, none⟩ := fun j hj => World.cell?_setCell_other _ _ _ _ (fun e => by have := congrArg Addr.block e; simp at this; omega)
  exact ⟨(ne _ (by omega)).trans h.most, (ne _ (by omega)).trans h.r1, by rw [World.frozen?_setCell]; exact h.f1, (ne _ (by omega)).trans h.r2, by rw [World.frozen?_setCell]; exact h.f2, (ne _ (by omega)).trans h.r3, by rw [World.frozen?_setCell]; exact h.f3,
    World.cell?_setCell_same' _ _ _ (by rw [h.num]; rfl), by rw [World.frozen?_setCell]; exact h.f4⟩
theorem Boxs.drew {B v : Nat} {most : Int} {W : World} (h : Boxs B most v W) : Boxs B most v W.drew := ⟨h.most, h.r1, h.f1, h.r2, h.f2, h.r3, h.f3, h.num, h.f4⟩
theorem Boxs.told {B v D : Nat} {most : Int} {W : World} (h : Boxs B most v W) (hK : W.heap[D]? = some (.deferred (some []))) (hD : B + 6 ≤ D) (x y z : Int) :
    (((W.setCell ⟨B + 1, 0, none⟩ (.int .u64 x)).setCell ⟨B + 1 + 1, 0, none⟩ (.int .i64 y)).setCell ⟨B + 1 + 1 + 1, 0, none⟩ (.int .i64 z)).heap[D]? = some (.deferred (some [])) ∧
    (((W.setCell ⟨B + 1, 0, none⟩ (.int .u64 x)).setCell ⟨B + 1 + 1, 0, none⟩ (.int .i64 y)).setCell ⟨B + 1 + 1 + 1, 0, none⟩ (.int .i64 z)).cell? ⟨B + 1, 0, none⟩ = some (.int .u64 x) ∧
    (((W.setCell ⟨B + 1, 0, none⟩ (.int .u64 x)).setCell ⟨B + 1 + 1, 0, none⟩ (.int .i64 y)).setCell ⟨B + 1 + 1 + 1, 0, none⟩ (.int .i64 z)).cell? ⟨B + 1 + 1, 0, none⟩ = some (.int .i64 y) ∧
    (((W.setCell ⟨B + 1, 0, none⟩ (.int .u64 x)).setCell ⟨B + 1 + 1, 0, none⟩ (.int .i64 y)).setCell ⟨B + 1 + 1 + 1, 0, none⟩ (.int .i64 z)).cell? ⟨B + 1 + 1 + 1, 0, none⟩ = some (.int .i64 z) := by
  have o : ∀ (V : World) (i j : Nat) (u : Value), i ≠ j → (V.setCell ⟨i, 0, none⟩ u).cell? ⟨j, 0, none⟩ = V.cell? ⟨j, 0, none⟩ := fun V i j u hij => World.cell?_setCell_other _ _ _ _ (fun e => hij (by simpa using congrArg Addr.block e))
  refine ⟨?_, ?_, ?_, ?_⟩
  · rw [Below.heap_setCell _ _ _ D (by simp; omega), Below.heap_setCell _ _ _ D (by simp; omega), Below.heap_setCell _ _ _ D (by simp; omega)]; exact hK
  · rw [o _ _ _ _ (by omega), o _ _ _ _ (by omega)]; exact World.cell?_setCell_same' _ _ _ (by rw [h.r1]; rfl)
  · rw [o _ _ _ _ (by omega)]; exact World.cell?_setCell_same' _ _ _ (by rw [o _ _ _ _ (by omega), h.r2]; rfl)
  · exact World.cell?_setCell_same' _ _ _ (by rw [o _ _ _ _ (by omega), o _ _ _ _ (by omega), h.r3]; rfl)
theorem len_any (v bl : Nat) (w : World) (hv : v < 18446744073709551616) (hb : Hid (Lib.bitLen v = bl)) :
    Calls Try.prog 68 #[.int .u64 (v : Int)] w fun e w' => e = .returned (.int .i64 (bl : Int)) ∧ w = w' :=
  (Try.bits_Len64 (v : Int) w (by omega) (by omega)).mono fun e w' ⟨he, hw⟩ => ⟨by rw [he, Int.toNat_natCast, hb.out], hw.symm⟩
set_option maxRecDepth 100000 in
set_option maxHeartbeats 2000000 in
theorem find_core (g d o n c k N lo : Nat) (most : Int) (bs : List Nat) (w : World) (zb : Bool) (hlt : g < w.heap.size) (hdl : d < w.heap.size) (hc : w.cell? ⟨g, 0, none⟩ = some (.slice (some ⟨d, o, none⟩) n c))
    (HB : Hid (Bys w (some ⟨d, o, none⟩) n bs)) (hl : n ≤ 1099511627776) (h1 : n ≤ c) (h2 : c ≤ 9223372036854775807) (hkn : k < n) (HG : Hid (Goes bs k)) (HL : Hid (bs.getD k 0 = lo)) (hlo : lo < 128)
    (HA : Hid (∀ j, j < k → w.cell? ⟨d, o + j, none⟩ = some (.int .u8 (((lowAt N j).val + 128 : Nat) : Int)))) (HN : Hid (N / 128 ^ k = lo)) (hz : ((lo : Int) == 0) = zb) (hzk : zb = true → k = 0) (hm0 : 63 ≤ most) (hm1 : most ≤ 64) (HM : Hid (∀ j, 0 < j → j ≤ k → (Lib.bitLen (N / 128 ^ j) : Int) ≤ most - 7)) :
    Calls Try.prog 61 #[.pointer (some ⟨g, 0, none⟩), .int .i64 most] w fun e w' => e = .returned (.tuple #[.int .u64 (N : Int), .int .i64 ((k : Int) + 1), .int .i64 0]) ∧ Below w.heap.size w w' := by
  have hb4 := boxes_below w most
  have hc4 := (hb4.cell (p := ⟨g, 0, none⟩) hlt).trans hc
  have HB4 := Lib.hid hb4
  obtain ⟨_, _, e0, hcell⟩ := HB.out.at (by omega)
  cases e0
  have hk0 := hcell k hkn
  rw [HL.out] at hk0
  have hk4 := (hb4.cell (p := ⟨d, o + k, none⟩) hdl).trans hk0
  have hc5 := ((hb4.alloc hb4.size (.cells #[.int .u64 (lo : Int)] 86)).cell (p := ⟨g, 0, none⟩) hlt).trans hc
  have hkc : k ≤ c := by omega
  have hki : (k : Int) ≤ (c : Int) := by omega
  have hkd : decide ((k : Int) < 0) = false := decide_eq_false (by omega)
  clear hb4 hcell hk0
  refine (callsIn_wide (n := 5)).1 ?_
  refine callsIn_of_wp_marks Try.func61 rfl trivial ?_ rfl
  simp only [Try.ntmps61, List.size_toArray, List.length_cons, List.length_nil, Nat.reduceAdd, Nat.reduceSub, Array.replicate_succ, Array.replicate_zero, List.push_toArray, List.append_toArray, List.nil_append, List.cons_append]
  have HZK := Lib.hid hzk
  clear hzk
  cases zb with
  | true =>
    have hk01 : decide (0 < k) = false := decide_eq_false (by have := HZK.out rfl; omega)
    have hk00 : decide ((0 : Int) < (k : Int)) = false := decide_eq_false (by have := HZK.out rfl; omega)
    gi_wp2_with (first
      | (refine ⟨trivial, ?_⟩; gi_at_call 65; refine (callsIn_wide.2 (index_hit d o n c bs k _ (by omega) hkn (HB.out.below HB4.out) HG.out (by rw [HL.out]; exact hlo))).mono ?_; rintro e w' ⟨rfl, rfl⟩)
      | (refine ⟨trivial, ?_⟩; gi_at_call 67; refine (back_in _ _ trivial rfl _ _ _ _).mono ?_; rintro e w' ⟨rfl, rfl⟩))
    obtain ⟨_, _, _, _, _, h6, hsz, hbB⟩ := six_at w (.cells #[.int .i64 most] 3) (.cells #[.int .u64 0] 86) (.cells #[.int .i64 0] 3) (.cells #[.int .i64 0] 27) (.cells #[.int .u64 (lo : Int)] 86) (.cells #[.slice (some ⟨d, o, none⟩) k c] 42)
    have hbx := boxs_six w most lo d o k c
    have hbs := cell_of_one h6
    change Code.wpIn _ _ _ _ _ _ (six w (.cells #[.int .i64 most] 3) (.cells #[.int .u64 0] 86) (.cells #[.int .i64 0] 3) (.cells #[.int .i64 0] 27) (.cells #[.int .u64 (lo : Int)] 86) (.cells #[.slice (some ⟨d, o, none⟩) k c] 42))
    clear hc4 hc5 hk4 HB4 h6
    generalize six w (.cells #[.int .i64 most] 3) (.cells #[.int .u64 0] 86) (.cells #[.int .i64 0] 3) (.cells #[.int .i64 0] 27) (.cells #[.int .u64 (lo : Int)] 86) (.cells #[.slice (some ⟨d, o, none⟩) k c] 42) = W6 at *
    refine wpIn_rangeFunc_ownG rfl (by omega) (gf := 70) (lb := #[.pointer (some ⟨w.heap.size + 1 + 1 + 1 + 1 + 1, 0, none⟩)]) rfl trivial (enters_of Try.func70 (by kernel_rfl) rfl)
      (back_stops Fence.wide 4 trivial rfl (by omega) (w.heap.size + 1 + 1 + 1 + 1 + 1) d o k c (lowAt N) (by omega) W6 (by omega) (by omega) hbs (fun j hj => (hbB.cell (p := ⟨d, o + j, none⟩) hdl).trans (HA.out j hj))) Two.trans (Two.put (by omega) (by omega)) (Below.refl _ _) (fun _ => rfl)
      (fun pre W => (Boxs w.heap.size most (hv lo pre) W ∧ Below w.heap.size w W) ∧ hv lo pre < 18446744073709551616)
      (fun cd pre _ => cd = .ret ∧ ∃ ini last, pre = ini ++ [last] ∧ most - 7 < (Lib.bitLen (hv lo ini) : Int))
      (OwnFrom.and (OwnFrom.and (Own.from Boxs.own _) (ownFrom_below (by omega) (by omega))) (ownFrom_pure _ _))
      (fun c => ownFrom_pure _ _)
      ⟨⟨hbx, hbB⟩, by show lo < _; omega⟩
      (fun x => { tmps := #[.pointer (some ⟨g, 0, none⟩), .int .i64 most, undef, .pointer (some ⟨w.heap.size, 0, none⟩), .pointer (some ⟨w.heap.size + 1, 0, none⟩), .pointer (some ⟨w.heap.size + 1 + 1, 0, none⟩), .pointer (some ⟨w.heap.size + 1 + 1 + 1, 0, none⟩), .int .i64 (k : Int),
          .pointer (some ⟨w.heap.size + 1 + 1 + 1 + 1, 0, none⟩), undef, .int .u8 ((x.2.val + 128 : Nat) : Int), .pointer (some ⟨g, 0, none⟩), .pointer (some ⟨g, 0, none⟩), .pointer (some ⟨g, 0, none⟩), .slice (some ⟨d, o, none⟩) n c, .int .i64 (k : Int), .int .i64 (k : Int), .bool false,
          .pointer (some ⟨g, 0, none⟩), .pointer (some ⟨g, 0, none⟩), .pointer (some ⟨g, 0, none⟩), .slice (some ⟨d, o, none⟩) n c, .int .i64 (k : Int), .pointer (some ⟨d, o + k, none⟩), .int .u8 (lo : Int), .int .u64 (lo : Int), .int .u64 (lo : Int), .bool true, .bool true, .int .i64 (k : Int), .bool false, .bool false,
          .pointer (some ⟨g, 0, none⟩), .pointer (some ⟨g, 0, none⟩), .pointer (some ⟨g, 0, none⟩), .slice (some ⟨d, o, none⟩) n c, .int .i64 (k : Int), .slice (some ⟨d, o, none⟩) k c, .func (.func 70) #[] #[.pointer (some ⟨w.heap.size + 1 + 1 + 1 + 1 + 1, 0, none⟩)],
          .int .i64 (x.1 : Int), .int .u8 ((x.2.val + 128 : Nat) : Int), undef, undef, undef, undef, undef, undef, undef, undef, undef, undef, undef, undef, undef, undef], defers := [] }) ?assign ?body ?done ?stop
    case assign =>
      intro l x W K hK
      gi_wp2
      exact hK
    case body =>
      rintro l pre x W ⟨⟨hbx, hB⟩, hv64⟩ _
      have hmx : Try.prog.follows .mixedOrders = true := by kernel_rfl
      have hm := hbx.most
      have hnum := hbx.num
      have hf4 := hbx.f4
      have hc1 := hbx.r1
      have hf1 := hbx.f1
      have hc2 := hbx.r2
      have hf2 := hbx.f2
      have hc3 := hbx.r3
      have hf3 := hbx.f3
      have HX := Lib.hid hbx
      have HB' := Lib.hid hB
      clear hbx hB
      obtain ⟨v, HVV⟩ : ∃ v, Hid (hv lo pre = v) := ⟨_, Lib.hid rfl⟩
      rw [HVV.out] at hnum hv64 HX
      obtain ⟨bl, hbl⟩ : ∃ bl, Hid (Lib.bitLen v = bl) := ⟨_, Lib.hid rfl⟩
      obtain ⟨M, hM⟩ : ∃ M : Int, Hid (most - 7 = M) := ⟨_, Lib.hid rfl⟩
      have hw : IntKind.i64.wrap (most - 7) = M := by rw [← hM.out, IntKind.wrap_i64]; omega
      obtain ⟨xi, y, hy⟩ := x
      by_cases hbig : M < (bl : Int)
      · have hd : decide (M < (bl : Int)) = true := decide_eq_true hbig
        have HIX : Hid (∃ ini last, pre ++ [(xi, (⟨y, hy⟩ : Low))] = ini ++ [last] ∧ most - 7 < (Lib.bitLen (hv lo ini) : Int)) := Lib.hid ⟨pre, _, rfl, by rw [hM.out, HVV.out, hbl.out]; exact hbig⟩
        gi_wp2
        gi_region_with_o (refine ⟨trivial, ?_⟩; gi_at_call 68; refine (CallsIn.inRound l (callsIn_wide.2 (len_any v bl _ hv64 hbl))).mono ?_; rintro e w' ⟨rfl, rfl⟩)
        all_goals gi_wp2
        all_goals exact ⟨((((KeepsOthers.setCell _ _ _).trans (KeepsOthers.setCell _ _ _)).trans (KeepsOthers.setCell _ _ _)).trans (KeepsOthers.drew _)).from _, rfl, HIX.out⟩
      · have hd : decide (M < (bl : Int)) = false := decide_eq_false hbig
        have hv57 : v * 128 < 18446744073709551616 := by
          have h57 : v < 2 ^ 57 := lt_of_bitLen v 57 hv64 (by have := hM.out; have := hbl.out; omega)
          omega
        have hs1 : IntKind.u64.wrap ((v : Int) * 128) = ((v * 128 : Nat) : Int) := by rw [wrap_u64]; omega
        have hor : bits .or .u64 ((v * 128 : Nat) : Int) (y : Int) = ((v * 128 + y : Nat) : Int) := by rw [u64_or_nat _ _ hv57 (by omega), shift_or v y hy]
        have hv2 : v * 128 + y < 18446744073709551616 := by omega
        have HV2 : Hid (hv lo (pre ++ [(xi, (⟨y, hy⟩ : Low))]) = v * 128 + y) := Lib.hid (by rw [hv_snoc, HVV.out])
        generalize v * 128 + y = v2 at *
        generalize v * 128 = v1 at *
        gi_wp2
        gi_region_with_o (refine ⟨trivial, ?_⟩; gi_at_call 68; refine (CallsIn.inRound l (callsIn_wide.2 (len_any v bl _ hv64 hbl))).mono ?_; rintro e w' ⟨rfl, rfl⟩)
        all_goals gi_wp2
        all_goals exact ⟨((KeepsOthers.setCell _ _ _).trans (KeepsOthers.drew _)).from _, (Two.setCell (by omega) (by omega) _ _).trans (Two.drew _ _ _), ⟨by rw [HV2.out]; exact HX.out.put.drew, (HB'.out.setCell (p := ⟨w.heap.size + 1 + 1 + 1 + 1, 0, none⟩) (by show w.heap.size ≤ w.heap.size + 1 + 1 + 1 + 1; omega) _).drew⟩, by rw [HV2.out]; exact hv2⟩
    case done =>
      rintro D ys W hD rfl ⟨⟨hbx, hB⟩, hv64⟩ hK
      have hN : hv lo (upto (fun j => (k - 1 - j, lowAt N (k - 1 - j))) k) = N := by rw [← HN.out, hv_upto N k k (Nat.le_refl _), Nat.sub_self, Nat.pow_zero, Nat.div_one]
      rw [hN] at hbx hv64
      clear hN
      have hnum := hbx.num
      have hc1 := hbx.r1
      have hf1 := hbx.f1
      have hc2 := hbx.r2
      have hf2 := hbx.f2
      have hc3 := hbx.r3
      have hf3 := hbx.f3
      have HK := Lib.hid hK
      have HB' := Lib.hid hB
      have HX := Lib.hid hbx
      clear hbx hB hK
      have HS := Lib.hid (Boxs.told HX.out HK.out (by omega) (N : Int) ((k : Int) + 1) 0)
      have HZ : Hid (Below w.heap.size w (((W.setCell ⟨w.heap.size + 1, 0, none⟩ (.int .u64 (N : Int))).setCell ⟨w.heap.size + 1 + 1, 0, none⟩ (.int .i64 ((k : Int) + 1))).setCell ⟨w.heap.size + 1 + 1 + 1, 0, none⟩ (.int .i64 0))) :=
        Lib.hid (((HB'.out.setCell (p := ⟨w.heap.size + 1, 0, none⟩) (by show w.heap.size ≤ w.heap.size + 1; omega) _).setCell (p := ⟨w.heap.size + 1 + 1, 0, none⟩) (by show w.heap.size ≤ w.heap.size + 1 + 1; omega) _).setCell (p := ⟨w.heap.size + 1 + 1 + 1, 0, none⟩) (by show w.heap.size ≤ w.heap.size + 1 + 1 + 1; omega) _)
      gi_wp2
      obtain ⟨hK', q1, q2, q3⟩ := HS.out
      refine ⟨by simp, .inl ⟨_, _, rfl, run_takeDeferred hK', ?_⟩⟩
      have k1 := cell_kept q1 (grownBy_putObj' _ D (.deferred none)) (fun r e => by cases e; exact ⟨_, hK', rfl⟩)
      have k2 := cell_kept q2 (grownBy_putObj' _ D (.deferred none)) (fun r e => by cases e; exact ⟨_, hK', rfl⟩)
      have k3 := cell_kept q3 (grownBy_putObj' _ D (.deferred none)) (fun r e => by cases e; exact ⟨_, hK', rfl⟩)
      refine ⟨.tuple #[.int .u64 (N : Int), .int .i64 ((k : Int) + 1), .int .i64 0], ?_, rfl, HZ.out.trans (belowK_b (w := w) (Nat.le_refl _) _ D _ _ (by omega) hK' rfl rfl)⟩
      simp [results, Try.f61, go_sem, k1, k2, k3]
    case stop =>
      rintro D cd pre W hD ⟨i, hi, rfl⟩ ⟨rfl, ini, last, e1, e2⟩ hK
      exfalso
      obtain ⟨i, rfl⟩ : ∃ j, i = j + 1 := by
        cases i with
        | zero => simp [upto] at e1
        | succ j => exact ⟨j, rfl⟩
      rw [upto_succ] at e1
      obtain ⟨rfl, _⟩ := List.append_inj' e1 rfl
      rw [← HN.out, hv_upto N k i (by omega)] at e2
      have := HM.out (k - i) (by omega) (by omega)
      omega
  | false =>
    gi_wp2_with (first
      | (refine ⟨trivial, ?_⟩; gi_at_call 65; refine (callsIn_wide.2 (index_hit d o n c bs k _ (by omega) hkn (HB.out.below HB4.out) HG.out (by rw [HL.out]; exact hlo))).mono ?_; rintro e w' ⟨rfl, rfl⟩)
      | (refine ⟨trivial, ?_⟩; gi_at_call 67; refine (back_in _ _ trivial rfl _ _ _ _).mono ?_; rintro e w' ⟨rfl, rfl⟩))
    obtain ⟨_, _, _, _, _, h6, hsz, hbB⟩ := six_at w (.cells #[.int .i64 most] 3) (.cells #[.int .u64 0] 86) (.cells #[.int .i64 0] 3) (.cells #[.int .i64 0] 27) (.cells #[.int .u64 (lo : Int)] 86) (.cells #[.slice (some ⟨d, o, none⟩) k c] 42)
    have hbx := boxs_six w most lo d o k c
    have hbs := cell_of_one h6
    change Code.wpIn _ _ _ _ _ _ (six w (.cells #[.int .i64 most] 3) (.cells #[.int .u64 0] 86) (.cells #[.int .i64 0] 3) (.cells #[.int .i64 0] 27) (.cells #[.int .u64 (lo : Int)] 86) (.cells #[.slice (some ⟨d, o, none⟩) k c] 42))
    clear hc4 hc5 hk4 HB4 h6
    generalize six w (.cells #[.int .i64 most] 3) (.cells #[.int .u64 0] 86) (.cells #[.int .i64 0] 3) (.cells #[.int .i64 0] 27) (.cells #[.int .u64 (lo : Int)] 86) (.cells #[.slice (some ⟨d, o, none⟩) k c] 42) = W6 at *
    refine wpIn_rangeFunc_ownG rfl (by omega) (gf := 70) (lb := #[.pointer (some ⟨w.heap.size + 1 + 1 + 1 + 1 + 1, 0, none⟩)]) rfl trivial (enters_of Try.func70 (by kernel_rfl) rfl)
      (back_stops Fence.wide 4 trivial rfl (by omega) (w.heap.size + 1 + 1 + 1 + 1 + 1) d o k c (lowAt N) (by omega) W6 (by omega) (by omega) hbs (fun j hj => (hbB.cell (p := ⟨d, o + j, none⟩) hdl).trans (HA.out j hj))) Two.trans (Two.put (by omega) (by omega)) (Below.refl _ _) (fun _ => rfl)
      (fun pre W => (Boxs w.heap.size most (hv lo pre) W ∧ Below w.heap.size w W) ∧ hv lo pre < 18446744073709551616)
      (fun cd pre _ => cd = .ret ∧ ∃ ini last, pre = ini ++ [last] ∧ most - 7 < (Lib.bitLen (hv lo ini) : Int))
      (OwnFrom.and (OwnFrom.and (Own.from Boxs.own _) (ownFrom_below (by omega) (by omega))) (ownFrom_pure _ _))
      (fun c => ownFrom_pure _ _)
      ⟨⟨hbx, hbB⟩, by show lo < _; omega⟩
      (fun x => { tmps := #[.pointer (some ⟨g, 0, none⟩), .int .i64 most, undef, .pointer (some ⟨w.heap.size, 0, none⟩), .pointer (some ⟨w.heap.size + 1, 0, none⟩), .pointer (some ⟨w.heap.size + 1 + 1, 0, none⟩), .pointer (some ⟨w.heap.size + 1 + 1 + 1, 0, none⟩), .int .i64 (k : Int),
          .pointer (some ⟨w.heap.size + 1 + 1 + 1 + 1, 0, none⟩), undef, .int .u8 ((x.2.val + 128 : Nat) : Int), .pointer (some ⟨g, 0, none⟩), .pointer (some ⟨g, 0, none⟩), .pointer (some ⟨g, 0, none⟩), .slice (some ⟨d, o, none⟩) n c, .int .i64 (k : Int), .int .i64 (k : Int), .bool false,
          .pointer (some ⟨g, 0, none⟩), .pointer (some ⟨g, 0, none⟩), .pointer (some ⟨g, 0, none⟩), .slice (some ⟨d, o, none⟩) n c, .int .i64 (k : Int), .pointer (some ⟨d, o + k, none⟩), .int .u8 (lo : Int), .int .u64 (lo : Int), .int .u64 (lo : Int), .bool false, .bool false, undef, undef, .bool false,
          .pointer (some ⟨g, 0, none⟩), .pointer (some ⟨g, 0, none⟩), .pointer (some ⟨g, 0, none⟩), .slice (some ⟨d, o, none⟩) n c, .int .i64 (k : Int), .slice (some ⟨d, o, none⟩) k c, .func (.func 70) #[] #[.pointer (some ⟨w.heap.size + 1 + 1 + 1 + 1 + 1, 0, none⟩)],
          .int .i64 (x.1 : Int), .int .u8 ((x.2.val + 128 : Nat) : Int), undef, undef, undef, undef, undef, undef, undef, undef, undef, undef, undef, undef, undef, undef], defers := [] }) ?assign ?body ?done ?stop
    case assign =>
      intro l x W K hK
      gi_wp2
      exact hK
    case body =>
      rintro l pre x W ⟨⟨hbx, hB⟩, hv64⟩ _
      have hmx : Try.prog.follows .mixedOrders = true := by kernel_rfl
      have hm := hbx.most
      have hnum := hbx.num
      have hf4 := hbx.f4
      have hc1 := hbx.r1
      have hf1 := hbx.f1
      have hc2 := hbx.r2
      have hf2 := hbx.f2
      have hc3 := hbx.r3
      have hf3 := hbx.f3
      have HX := Lib.hid hbx
      have HB' := Lib.hid hB
      clear hbx hB
      obtain ⟨v, HVV⟩ : ∃ v, Hid (hv lo pre = v) := ⟨_, Lib.hid rfl⟩
      rw [HVV.out] at hnum hv64 HX
      obtain ⟨bl, hbl⟩ : ∃ bl, Hid (Lib.bitLen v = bl) := ⟨_, Lib.hid rfl⟩
      obtain ⟨M, hM⟩ : ∃ M : Int, Hid (most - 7 = M) := ⟨_, Lib.hid rfl⟩
      have hw : IntKind.i64.wrap (most - 7) = M := by rw [← hM.out, IntKind.wrap_i64]; omega
      obtain ⟨xi, y, hy⟩ := x
      by_cases hbig : M < (bl : Int)
      · have hd : decide (M < (bl : Int)) = true := decide_eq_true hbig
        have HIX : Hid (∃ ini last, pre ++ [(xi, (⟨y, hy⟩ : Low))] = ini ++ [last] ∧ most - 7 < (Lib.bitLen (hv lo ini) : Int)) := Lib.hid ⟨pre, _, rfl, by rw [hM.out, HVV.out, hbl.out]; exact hbig⟩
        gi_wp2
        gi_region_with_o (refine ⟨trivial, ?_⟩; gi_at_call 68; refine (CallsIn.inRound l (callsIn_wide.2 (len_any v bl _ hv64 hbl))).mono ?_; rintro e w' ⟨rfl, rfl⟩)
        all_goals gi_wp2
        all_goals exact ⟨((((KeepsOthers.setCell _ _ _).trans (KeepsOthers.setCell _ _ _)).trans (KeepsOthers.setCell _ _ _)).trans (KeepsOthers.drew _)).from _, rfl, HIX.out⟩
      · have hd : decide (M < (bl : Int)) = false := decide_eq_false hbig
        have hv57 : v * 128 < 18446744073709551616 := by
          have h57 : v < 2 ^ 57 := lt_of_bitLen v 57 hv64 (by have := hM.out; have := hbl.out; omega)
          omega
        have hs1 : IntKind.u64.wrap ((v : Int) * 128) = ((v * 128 : Nat) : Int) := by rw [wrap_u64]; omega
        have hor : bits .or .u64 ((v * 128 : Nat) : Int) (y : Int) = ((v * 128 + y : Nat) : Int) := by rw [u64_or_nat _ _ hv57 (by omega), shift_or v y hy]
        have hv2 : v * 128 + y < 18446744073709551616 := by omega
        have HV2 : Hid (hv lo (pre ++ [(xi, (⟨y, hy⟩ : Low))]) = v * 128 + y) := Lib.hid (by rw [hv_snoc, HVV.out])
        generalize v * 128 + y = v2 at *
        generalize v * 128 = v1 at *
        gi_wp2
        gi_region_with_o (refine ⟨trivial, ?_⟩; gi_at_call 68; refine (CallsIn.inRound l (callsIn_wide.2 (len_any v bl _ hv64 hbl))).mono ?_; rintro e w' ⟨rfl, rfl⟩)
        all_goals gi_wp2
        all_goals exact ⟨((KeepsOthers.setCell _ _ _).trans (KeepsOthers.drew _)).from _, (Two.setCell (by omega) (by omega) _ _).trans (Two.drew _ _ _), ⟨by rw [HV2.out]; exact HX.out.put.drew, (HB'.out.setCell (p := ⟨w.heap.size + 1 + 1 + 1 + 1, 0, none⟩) (by show w.heap.size ≤ w.heap.size + 1 + 1 + 1 + 1; omega) _).drew⟩, by rw [HV2.out]; exact hv2⟩
    case done =>
      rintro D ys W hD rfl ⟨⟨hbx, hB⟩, hv64⟩ hK
      have hN : hv lo (upto (fun j => (k - 1 - j, lowAt N (k - 1 - j))) k) = N := by rw [← HN.out, hv_upto N k k (Nat.le_refl _), Nat.sub_self, Nat.pow_zero, Nat.div_one]
      rw [hN] at hbx hv64
      clear hN
      have hnum := hbx.num
      have hc1 := hbx.r1
      have hf1 := hbx.f1
      have hc2 := hbx.r2
      have hf2 := hbx.f2
      have hc3 := hbx.r3
      have hf3 := hbx.f3
      have HK := Lib.hid hK
      have HB' := Lib.hid hB
      have HX := Lib.hid hbx
      clear hbx hB hK
      have HS := Lib.hid (Boxs.told HX.out HK.out (by omega) (N : Int) ((k : Int) + 1) 0)
      have HZ : Hid (Below w.heap.size w (((W.setCell ⟨w.heap.size + 1, 0, none⟩ (.int .u64 (N : Int))).setCell ⟨w.heap.size + 1 + 1, 0, none⟩ (.int .i64 ((k : Int) + 1))).setCell ⟨w.heap.size + 1 + 1 + 1, 0, none⟩ (.int .i64 0))) :=
        Lib.hid (((HB'.out.setCell (p := ⟨w.heap.size + 1, 0, none⟩) (by show w.heap.size ≤ w.heap.size + 1; omega) _).setCell (p := ⟨w.heap.size + 1 + 1, 0, none⟩) (by show w.heap.size ≤ w.heap.size + 1 + 1; omega) _).setCell (p := ⟨w.heap.size + 1 + 1 + 1, 0, none⟩) (by show w.heap.size ≤ w.heap.size + 1 + 1 + 1; omega) _)
      gi_wp2
      obtain ⟨hK', q1, q2, q3⟩ := HS.out
      refine ⟨by simp, .inl ⟨_, _, rfl, run_takeDeferred hK', ?_⟩⟩
      have k1 := cell_kept q1 (grownBy_putObj' _ D (.deferred none)) (fun r e => by cases e; exact ⟨_, hK', rfl⟩)
      have k2 := cell_kept q2 (grownBy_putObj' _ D (.deferred none)) (fun r e => by cases e; exact ⟨_, hK', rfl⟩)
      have k3 := cell_kept q3 (grownBy_putObj' _ D (.deferred none)) (fun r e => by cases e; exact ⟨_, hK', rfl⟩)
      refine ⟨.tuple #[.int .u64 (N : Int), .int .i64 ((k : Int) + 1), .int .i64 0], ?_, rfl, HZ.out.trans (belowK_b (w := w) (Nat.le_refl _) _ D _ _ (by omega) hK' rfl rfl)⟩
      simp [results, Try.f61, go_sem, k1, k2, k3]
    case stop =>
      rintro D cd pre W hD ⟨i, hi, rfl⟩ ⟨rfl, ini, last, e1, e2⟩ hK
      exfalso
      obtain ⟨i, rfl⟩ : ∃ j, i = j + 1 := by
        cases i with
        | zero => simp [upto] at e1
        | succ j => exact ⟨j, rfl⟩
      rw [upto_succ] at e1
      obtain ⟨rfl, _⟩ := List.append_inj' e1 rfl
      rw [← HN.out, hv_upto N k i (by omega)] at e2
      have := HM.out (k - i) (by omega) (by omega)
      omega
theorem bit_small {N mm j : Nat} (hmm : mm = 63 ∨ mm = 64) (hN : N < 2 ^ mm) (hj : 0 < j) : (Lib.bitLen (N / 128 ^ j) : Int) ≤ (mm : Int) - 7 := by
  have h1 := div_small (n := N) hj
  have h2 : N / 128 < 2 ^ (mm - 7) := by
    rcases hmm with rfl | rfl
    · have : N < 9223372036854775808 := hN
      show _ < 72057594037927936; omega
    · have : N < 18446744073709551616 := hN
      show _ < 144115188075855872; omega
  have h3 := bitLen_le (N / 128 ^ j) (mm - 7) (by omega)
  omega
theorem getD_left (a b : List Nat) (j : Nat) (h : j < a.length) : (a ++ b).getD j 0 = a.getD j 0 := by
  rw [List.getD_eq_getElem?_getD, List.getD_eq_getElem?_getD, List.getElem?_append_left h]
theorem find_hit (g d N mm : Nat) (f : Int) (bs rest : List Nat) (w : World) (h : Rd w g d bs f) (hl : bs.length ≤ 1099511627776) (hb : bs = numB N ++ rest) (hmm : mm = 63 ∨ mm = 64) (hN : N < 2 ^ mm) :
    Calls Try.prog 61 #[.pointer (some ⟨g, 0, none⟩), .int .i64 (mm : Int)] w fun e w' => e = .returned (.tuple #[.int .u64 (N : Int), .int .i64 ((numB N).length : Int), .int .i64 0]) ∧ Below w.heap.size w w' := by
  obtain ⟨k, k1, k2, k3, k4, k5⟩ := numB_at N
  obtain ⟨p, c, h0, hh, hB, h1, h2, h3, h4⟩ := h
  have hc := cell_of_row w g 0 _ _ _ hh
  simp at hc
  have hkn : k < bs.length := by rw [hb, List.length_append]; omega
  obtain ⟨b, o, rfl, hcell⟩ := hB.at (by omega)
  obtain ⟨o', e'⟩ := h3 _ rfl
  cases e'
  have hat : ∀ j, j ≤ k → bs.getD j 0 = (numB N).getD j 0 := fun j hj => by rw [hb]; exact getD_left _ _ _ (by omega)
  have hres := find_core g d o bs.length c k N (N / 128 ^ k) (mm : Int) bs w (((N / 128 ^ k : Nat) : Int) == 0) (lt_of_block hh) (hB.lt (by omega) _ _ rfl) hc (Lib.hid hB) hl h1 h2 hkn
    (Lib.hid fun j hj => by rw [hat j (by omega), k2 j hj]; omega) (Lib.hid (by rw [hat k (Nat.le_refl _), k3])) k4
    (Lib.hid fun j hj => by rw [hcell j (by omega), hat j (by omega), k2 j hj]; rfl) (Lib.hid rfl) rfl (fun hz => by
      rcases Nat.eq_zero_or_pos k with h | h
      · exact h
      · have := k5 h
        have hz' := eq_of_beq hz
        omega) (by omega) (by omega) (Lib.hid fun j hj _ => bit_small hmm hN hj)
  rw [k1]
  exact hres
end Go.Proofs.Ytpdihgmgcamgkaa
