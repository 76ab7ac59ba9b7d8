/- What the law's 'same' returns of a reader that stands ahead of a thing, and what it leaves. -/
import Derived.Test.YtggkemgbacddgaaSized
import Derived.Deep.RegionWith
namespace Go.Proofs.Ytggkemgbacddgaa
open Go.RowKit

/-- The bytes of a thing. -/
def encO (kind N : Int) (ds : List Nat) : List Nat := if kind = 0 then numB (cnt N) else if kind = 1 then numB (zig N) else numB ds.length ++ ds

/-- The box of a thing that was handed in. -/
def Box3 (w : World) (b : Nat) (kind N : Int) (v : Value) : Prop := w.heap[b]? = some (.cells #[.int .i64 kind, .int .i64 N, v] 36 (0, 0))
theorem Box3.c0 {w : World} {b : Nat} {kind N : Int} {v : Value} (h : Box3 w b kind N v) : w.cell? ⟨b, 0, none⟩ = some (.int .i64 kind) := by rw [cell_of_row w b 0 _ _ _ h]; rfl
theorem Box3.c1 {w : World} {b : Nat} {kind N : Int} {v : Value} (h : Box3 w b kind N v) : w.cell? ⟨b, 1, none⟩ = some (.int .i64 N) := by rw [cell_of_row w b 1 _ _ _ h]; rfl
theorem Box3.c2 {w : World} {b : Nat} {kind N : Int} {v : Value} (h : Box3 w b kind N v) : w.cell? ⟨b, 2, none⟩ = some v := by rw [cell_of_row w b 2 _ _ _ h]; rfl
theorem Box3.only {w w' : World} {b g : Nat} {kind N : Int} {v : Value} (h : Box3 w b kind N v) (ho : Only g w w') (hg : b ≠ g) : Box3 w' b kind N v := (ho.block b (lt_of_block h) hg).trans h
theorem Only.drew_ (g : Nat) (w : World) : Only g w w.drew := Only.of_below (Below.refl _ _).drew
theorem Rd.drew_ {w : World} {g d : Nat} {bs : List Nat} {f : Int} (h : Rd w g d bs f) : Rd w.drew g d bs f := h.below (Below.refl _ _).drew
theorem Box3.new (w : World) (kind N : Int) (v : Value) : Box3 (w.alloc (.cells #[.int .i64 kind, .int .i64 N, v] 36)) w.heap.size kind N v := heap_alloc_new w _

set_option maxHeartbeats 800000 in
theorem same_count (g d k : Nat) (N : Int) (v : Value) (bs rest : List Nat) (w : World) (HR : Hid (Rd w g d bs 0)) (hl : bs.length ≤ 1099511627776) (HB : Hid (bs = numB (cnt N) ++ rest)) (h1 : N ≤ 9223372036854775807) (HK : Hid ((numB (cnt N)).length = k)) :
    Calls Try.prog 15 #[.pointer (some ⟨g, 0, none⟩), .agg #[.int .i64 0, .int .i64 N, v]] w fun e w' => e = .returned (.bool true) ∧ Went w w' g d rest 0 := by
  have hc := cnt_lt h1
  have hb : ((cnt N : Int) == max N 0) = true := by rw [beq_iff_eq]; unfold cnt; omega
  have hg := HR.out.lt
  have HA := Lib.hid (Box3.new w 0 N v)
  have HW : Hid (Below w.heap.size w (w.alloc (.cells #[.int .i64 0, .int .i64 N, v] 36))) := Lib.hid ((Below.refl _ _).alloc (Nat.le_refl _) _)
  have HR1 := Lib.hid (HR.out.below HW.out)
  have HO := Lib.hid (Only.of_below (g := g) HW.out)
  have m0 := HA.out.c0
  have m1 := HA.out.c1
  generalize cnt N = n at *
  go_enter Try.func15, Try.ntmps15
  go_wp2_with fail
  go_region_with (go_at_call 25; refine (count_hit g d n k 9223372036854775807 bs rest _ (by exact Lib.hid HR1.out.drew_) hl HB hc (by omega) (by omega) HK).mono ?_; rintro e w1 ⟨rfl, hwent⟩; have HWE := Lib.hid hwent; have m1 := (HA.out.only ((Only.drew_ _ _).trans hwent.only) (Nat.ne_of_gt hg)).c1; clear hwent)
  all_goals go_wp2_with fail
  all_goals go_ret
  all_goals exact ⟨rfl, HWE.out.rd, (HO.out.trans (Only.drew_ _ _)).trans HWE.out.only⟩

set_option maxHeartbeats 800000 in
theorem same_count_cut (g d : Nat) (N : Int) (v : Value) (bs : List Nat) (w : World) (HR : Hid (Rd w g d bs 0)) (hl : bs.length ≤ 1099511627776) (HG : Hid (Goes bs bs.length)) :
    Calls Try.prog 15 #[.pointer (some ⟨g, 0, none⟩), .agg #[.int .i64 0, .int .i64 N, v]] w fun e w' => (∃ z, e = .returned (.bool z)) ∧ Went w w' g d bs 3 := by
  have hg := HR.out.lt
  have HA := Lib.hid (Box3.new w 0 N v)
  have HW : Hid (Below w.heap.size w (w.alloc (.cells #[.int .i64 0, .int .i64 N, v] 36))) := Lib.hid ((Below.refl _ _).alloc (Nat.le_refl _) _)
  have HR1 := Lib.hid (HR.out.below HW.out)
  have HO := Lib.hid (Only.of_below (g := g) HW.out)
  have m0 := HA.out.c0
  have m1 := HA.out.c1
  go_enter Try.func15, Try.ntmps15
  go_wp2_with fail
  go_region_with (go_at_call 25; refine (count_none g d 9223372036854775807 bs _ (by exact Lib.hid HR1.out.drew_) hl HG (by omega) (by omega)).mono ?_; rintro e w1 ⟨rfl, hwent⟩; have HWE := Lib.hid hwent; have m1 := (HA.out.only ((Only.drew_ _ _).trans hwent.only) (Nat.ne_of_gt hg)).c1; clear hwent)
  all_goals go_wp2_with fail
  all_goals go_ret
  all_goals exact ⟨⟨_, rfl⟩, HWE.out.rd, (HO.out.trans (Only.drew_ _ _)).trans HWE.out.only⟩

set_option maxHeartbeats 800000 in
theorem same_whole (g d k : Nat) (N : Int) (v : Value) (bs rest : List Nat) (w : World) (HR : Hid (Rd w g d bs 0)) (hl : bs.length ≤ 1099511627776) (HB : Hid (bs = numB (zig N) ++ rest)) (h0 : -9223372036854775808 ≤ N) (h1 : N ≤ 9223372036854775807) (HK : Hid ((numB (zig N)).length = k)) :
    Calls Try.prog 15 #[.pointer (some ⟨g, 0, none⟩), .agg #[.int .i64 1, .int .i64 N, v]] w fun e w' => e = .returned (.bool true) ∧ Went w w' g d rest 0 := by
  have hz := zig_lt h0 h1
  have HZ := Lib.hid (zag_zig N)
  have hg := HR.out.lt
  have HA := Lib.hid (Box3.new w 1 N v)
  have HW : Hid (Below w.heap.size w (w.alloc (.cells #[.int .i64 1, .int .i64 N, v] 36))) := Lib.hid ((Below.refl _ _).alloc (Nat.le_refl _) _)
  have HR1 := Lib.hid (HR.out.below HW.out)
  have HO := Lib.hid (Only.of_below (g := g) HW.out)
  have m0 := HA.out.c0
  have m1 := HA.out.c1
  go_enter Try.func15, Try.ntmps15
  go_wp2_with fail
  go_region_with (go_at_call 26; refine (whole_hit g d (zig N) k bs rest _ (by exact Lib.hid HR1.out.drew_) hl HB hz HK).mono ?_; rintro e w1 ⟨rfl, hwent⟩; rw [HZ.out]; have HWE := Lib.hid hwent; have m1 := (HA.out.only ((Only.drew_ _ _).trans hwent.only) (Nat.ne_of_gt hg)).c1; clear hwent)
  all_goals go_wp2_with fail
  all_goals go_ret
  all_goals exact ⟨rfl, HWE.out.rd, (HO.out.trans (Only.drew_ _ _)).trans HWE.out.only⟩

set_option maxHeartbeats 800000 in
theorem same_whole_cut (g d : Nat) (N : Int) (v : Value) (bs : List Nat) (w : World) (HR : Hid (Rd w g d bs 0)) (hl : bs.length ≤ 1099511627776) (HG : Hid (Goes bs bs.length)) :
    Calls Try.prog 15 #[.pointer (some ⟨g, 0, none⟩), .agg #[.int .i64 1, .int .i64 N, v]] w fun e w' => (∃ z, e = .returned (.bool z)) ∧ Went w w' g d bs 3 := by
  have hg := HR.out.lt
  have HA := Lib.hid (Box3.new w 1 N v)
  have HW : Hid (Below w.heap.size w (w.alloc (.cells #[.int .i64 1, .int .i64 N, v] 36))) := Lib.hid ((Below.refl _ _).alloc (Nat.le_refl _) _)
  have HR1 := Lib.hid (HR.out.below HW.out)
  have HO := Lib.hid (Only.of_below (g := g) HW.out)
  have m0 := HA.out.c0
  have m1 := HA.out.c1
  go_enter Try.func15, Try.ntmps15
  go_wp2_with fail
  go_region_with (go_at_call 26; refine (whole_none g d bs _ (by exact Lib.hid HR1.out.drew_) hl HG).mono ?_; rintro e w1 ⟨⟨z, rfl⟩, hwent⟩; have HWE := Lib.hid hwent; have m1 := (HA.out.only ((Only.drew_ _ _).trans hwent.only) (Nat.ne_of_gt hg)).c1; clear hwent)
  all_goals go_wp2_with fail
  all_goals go_ret
  all_goals exact ⟨⟨_, rfl⟩, HWE.out.rd, (HO.out.trans (Only.drew_ _ _)).trans HWE.out.only⟩
end Go.Proofs.Ytggkemgbacddgaa
