/- What the fields of a sector tell: the code's told. -/
import Derived.Test.YtnjlhallkgacjaaTake5
import Derived.Test.YtnjlhallkgacjaaEnc0
import Derived.Deep.RegionHeld3
namespace Go.Proofs.Ytnjlhallkgacjaa
open Go.RowKit

/-- What the code's told tells. -/
def toldI (s : List Nat) : Rt := ⟨toI (val (s.take 8)), (val ((s.drop 12).take 4) : Int), (val ((s.drop 16).take 4) : Int), (val ((s.drop 20).take 4) : Int)⟩
def fld (s : List Nat) (o : Nat) : Nat := val ((s.drop o).take 4)
theorem fld_lt (s : List Nat) (o : Nat) (h : ∀ x ∈ s, x < 256) : fld s o < 4294967296 :=
  Nat.lt_of_lt_of_le (val_lt _ (fun x hx => h x (List.mem_of_mem_drop (List.mem_of_mem_take hx)))) (by
    have : ((s.drop o).take 4).length ≤ 4 := by rw [List.length_take]; omega
    exact Nat.le_trans (Nat.pow_le_pow_right (by omega) this) (by decide))
theorem IsS.sub {S : ByteArray} {s : List Nat} (h : IsS S s) (o k : Nat) (hl : s.length = 128) (hk : o + k ≤ 128) : IsS ((S.extract o 128).extract 0 k) ((s.drop o).take k) ∧ ((s.drop o).take k).length = k := by
  have h1 := (h.ext o 128).ext 0 k
  rw [List.drop_zero, Nat.sub_zero, List.take_take, Nat.min_eq_left (by omega)] at h1
  exact ⟨h1, by rw [List.length_take, List.length_drop]; omega⟩
def arr3 (v1 v2 v3 : Nat) : Nat → Array Value
  | 0 => #[.int .i64 0, .int .i64 0, .int .i64 0]
  | 1 => #[.int .i64 (v1 : Int), .int .i64 0, .int .i64 0]
  | 2 => #[.int .i64 (v1 : Int), .int .i64 (v2 : Int), .int .i64 0]
  | _ => #[.int .i64 (v1 : Int), .int .i64 (v2 : Int), .int .i64 (v3 : Int)]
structure TRel (w wr : World) (V : Array Value) : Prop where
  box : RtAt wr w.heap.size 29 Rt.none_
  arr : wr.heap[w.heap.size + 1]? = some (.cells V 57 (0, 0))
  below : Below w.heap.size w wr
theorem TRel.put {w wr : World} {V : Array Value} (h : TRel w wr V) (i : Nat) (v : Value) : TRel w (wr.setCell ⟨w.heap.size + 1, i, none⟩ v) (V.set! i v) :=
  ⟨(heap_setCell_other wr ⟨w.heap.size + 1, i, none⟩ w.heap.size v (by simp)).trans h.box, heap_setCell_same wr (w.heap.size + 1) i _ _ _ h.arr, h.below.setCell (Nat.le_succ _) _⟩
set_option maxHeartbeats 1600000 in
theorem told_any (S : ByteArray) (s : List Nat) (w : World) (hS : IsS S s) (hl : s.length = 128) :
    Calls Try.prog 28 #[.string S] w fun e w' => e = .returned (toldI s).val ∧ Below w.heap.size w w' := by
  have hsz : S.size = 128 := by rw [hS.size, hl]
  have h12 := hS.sub 12 4 hl (by omega)
  have h16 := hS.sub 16 4 hl (by omega)
  have h20 := hS.sub 20 4 hl (by omega)
  have h8 := hS.ext 0 8
  rw [List.drop_zero, Nat.sub_zero] at h8
  have z12 := h12.1.size
  have z16 := h16.1.size
  have z20 := h20.1.size
  have T12 := Lib.hid (fun w => take_any5 _ _ w h12.1 (by rw [h12.2]; omega))
  have T16 := Lib.hid (fun w => take_any5 _ _ w h16.1 (by rw [h16.2]; omega))
  have T20 := Lib.hid (fun w => take_any5 _ _ w h20.1 (by rw [h20.2]; omega))
  have T8 := Lib.hid (fun w => take_any5 _ _ w h8 (by rw [List.length_take]; omega))
  have f12 := fld_lt s 12 hS.dig
  have f16 := fld_lt s 16 hS.dig
  have f20 := fld_lt s 20 hS.dig
  rw [toI_small (show val ((s.drop 12).take 4) < 9223372036854775808 from Nat.lt_trans f12 (by decide))] at T12
  rw [toI_small (show val ((s.drop 16).take 4) < 9223372036854775808 from Nat.lt_trans f16 (by decide))] at T16
  rw [toI_small (show val ((s.drop 20).take 4) < 9223372036854775808 from Nat.lt_trans f20 (by decide))] at T20
  unfold Rt.val toldI
  simp only
  clear hS h12 h16 h20 h8 z12 z16 z20 f12 f16 f20
  generalize val ((s.drop 12).take 4) = v1 at *
  generalize val ((s.drop 16).take 4) = v2 at *
  generalize val ((s.drop 20).take 4) = v3 at *
  generalize toI (val (s.take 8)) = v0 at *
  have e12 : (S.extract 12 128).size = 116 := by rw [ByteArray.size_extract]; omega
  have e16 : (S.extract 16 128).size = 112 := by rw [ByteArray.size_extract]; omega
  have e20 : (S.extract 20 128).size = 108 := by rw [ByteArray.size_extract]; omega
  go_enter Try.func28, Try.ntmps28
  go_wp2_with fail
  have H0 : Hid (TRel w ((w.alloc (.cells #[.int .i64 0, .int .i64 0, .int .i64 0, .int .i64 0] 29)).alloc (.cells #[.int .i64 0, .int .i64 0, .int .i64 0] 57)) (arr3 v1 v2 v3 0)) :=
    Lib.hid ⟨heap_alloc2_old w _ _, heap_alloc2_new w _ _, ((Below.refl _ _).alloc (Nat.le_refl _) _).alloc (by simp) _⟩
  generalize ((w.alloc (.cells #[.int .i64 0, .int .i64 0, .int .i64 0, .int .i64 0] 29)).alloc (.cells #[.int .i64 0, .int .i64 0, .int .i64 0] 57)) = w2 at *
  go_loopw [5] (fun iv wr => ∃ j : Nat, j ≤ 3 ∧ iv = .int .i64 (j : Int) ∧ Hid (TRel w wr (arr3 v1 v2 v3 j))) (fun iv _ => 3 - (intOf iv).toNat)
  case atStart => exact ⟨0, by omega, by go_num, H0⟩
  case round =>
    obtain ⟨j, hj, rfl, HR⟩ := hrel
    clear H0
    by_cases hlt : j < 3
    · rcases (show j = 0 ∨ j = 1 ∨ j = 2 by omega) with rfl | rfl | rfl
      · have k0 : wr.cell? ⟨w.heap.size + 1, 0, none⟩ = some (.int .i64 0) := by rw [cell_of_row wr (w.heap.size + 1) 0 _ _ _ HR.out.arr]; rfl
        have kf := frozen_of_row wr (w.heap.size + 1) 0 _ _ HR.out.arr
        have HN : Hid (TRel w (wr.setCell ⟨w.heap.size + 1, 0, none⟩ (.int .i64 (v1 : Int))) (arr3 v1 v2 v3 1)) := Lib.hid (HR.out.put 0 _)
        clear HR
        go_wp2_with (first
          | (go_at_call 26; refine (fieldPlace_any 0 _ (by omega)).mono ?_; rintro e w7 ⟨rfl, rfl⟩)
          | (go_at_call 42; refine (T12.out _).mono ?_; rintro e w7 ⟨rfl, rfl⟩))
        go_roundw
        case rel => exact ⟨1, by omega, by go_num, HN⟩
        case measure => simp [intOf]
      · have k0 : wr.cell? ⟨w.heap.size + 1, 1, none⟩ = some (.int .i64 0) := by rw [cell_of_row wr (w.heap.size + 1) 1 _ _ _ HR.out.arr]; rfl
        have kf := frozen_of_row wr (w.heap.size + 1) 1 _ _ HR.out.arr
        have HN : Hid (TRel w (wr.setCell ⟨w.heap.size + 1, 1, none⟩ (.int .i64 (v2 : Int))) (arr3 v1 v2 v3 2)) := Lib.hid (HR.out.put 1 _)
        clear HR
        go_wp2_with (first
          | (go_at_call 26; refine (fieldPlace_any 1 _ (by omega)).mono ?_; rintro e w7 ⟨rfl, rfl⟩)
          | (go_at_call 42; refine (T16.out _).mono ?_; rintro e w7 ⟨rfl, rfl⟩))
        go_roundw
        case rel => exact ⟨2, by omega, by go_num, HN⟩
        case measure => simp [intOf]
      · have k0 : wr.cell? ⟨w.heap.size + 1, 2, none⟩ = some (.int .i64 0) := by rw [cell_of_row wr (w.heap.size + 1) 2 _ _ _ HR.out.arr]; rfl
        have kf := frozen_of_row wr (w.heap.size + 1) 2 _ _ HR.out.arr
        have HN : Hid (TRel w (wr.setCell ⟨w.heap.size + 1, 2, none⟩ (.int .i64 (v3 : Int))) (arr3 v1 v2 v3 3)) := Lib.hid (HR.out.put 2 _)
        clear HR
        go_wp2_with (first
          | (go_at_call 26; refine (fieldPlace_any 2 _ (by omega)).mono ?_; rintro e w7 ⟨rfl, rfl⟩)
          | (go_at_call 42; refine (T20.out _).mono ?_; rintro e w7 ⟨rfl, rfl⟩))
        go_roundw
        case rel => exact ⟨3, by omega, by go_num, HN⟩
        case measure => simp [intOf]
    · obtain rfl : j = 3 := by omega
      have k0 : wr.cell? ⟨w.heap.size + 1, 0, none⟩ = some (.int .i64 (v1 : Int)) := by rw [cell_of_row wr (w.heap.size + 1) 0 _ _ _ HR.out.arr]; rfl
      have k1 : wr.cell? ⟨w.heap.size + 1, 1, none⟩ = some (.int .i64 (v2 : Int)) := by rw [cell_of_row wr (w.heap.size + 1) 1 _ _ _ HR.out.arr]; rfl
      have k2 : wr.cell? ⟨w.heap.size + 1, 2, none⟩ = some (.int .i64 (v3 : Int)) := by rw [cell_of_row wr (w.heap.size + 1) 2 _ _ _ HR.out.arr]; rfl
      have b0 := HR.out.box.c0
      have b1 := HR.out.box.c1
      have b2 := HR.out.box.c2
      have b3 := HR.out.box.c3
      have bf := HR.out.box.fz
      go_wp2_with fail
      go_region_held3 (fun w' => w'.cell? ⟨w.heap.size + 1, 0, none⟩ = some (.int .i64 (v1 : Int)) ∧ w'.cell? ⟨w.heap.size + 1, 1, none⟩ = some (.int .i64 (v2 : Int)) ∧ w'.cell? ⟨w.heap.size + 1, 2, none⟩ = some (.int .i64 (v3 : Int)))
        (go_keep) ((go_at_call 42; refine (T8.out _).mono ?_; rintro e w7 ⟨rfl, rfl⟩))
      all_goals
        have HB : Hid (Below w.heap.size w wr) := Lib.hid HR.out.below
        clear HR
        go_wp2_with fail
        exact bodyPost_ret (v := .agg #[.int .i64 v0, .int .i64 (v1 : Int), .int .i64 (v2 : Int), .int .i64 (v3 : Int)]) (by simp [results, Try.results28, go_sem, b0, b1, b2, b3]) rfl ⟨rfl, ((((HB.out.setCell (Nat.le_refl _) _).setCell (Nat.le_refl _) _).setCell (Nat.le_refl _) _).setCell (Nat.le_refl _) _).drew⟩
end Go.Proofs.Ytnjlhallkgacjaa
