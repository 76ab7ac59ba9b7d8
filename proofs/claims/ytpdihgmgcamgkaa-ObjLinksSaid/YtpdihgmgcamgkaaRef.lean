/- The document's answer: the strings of a number, a count, a whole number and sized bytes. -/
import Derived.Test.YtpdihgmgcamgkaaNb
import Derived.Deep.RegionWith
namespace Go.Proofs.Ytpdihgmgcamgkaa
open Go.RowKit

theorem strB_append (a b : List Nat) : strB (a ++ b) = strB a ++ strB b := by
  apply ByteArray.ext
  unfold strB
  rw [ByteArray.data_append]
  apply Array.ext'
  rw [Array.toList_append, strOfNums_data, strOfNums_data, strOfNums_data, List.map_append, List.map_append]
theorem strB_size (bs : List Nat) : (strB bs).size = bs.length := by unfold strB; rw [strOfNums_size, List.length_map]
theorem str_cell (w w2 : World) (x : Nat) (hx : x < 256) (h : w2.cell? ⟨w.heap.size, 0, none⟩ = some (.int .u8 (x : Int))) : (convert 42 9 (.slice (some ⟨w.heap.size, 0, none⟩) 1 1)).run Try.prog w2 = .ok (.string (strB [x])) w2 :=
  Bys.conv (p := some ⟨w.heap.size, 0, none⟩) (n := 1) (bs := [x]) ⟨rfl, by intro y hy; simp at hy; omega, fun _ => ⟨_, 0, rfl, fun i hi => by
    obtain rfl : i = 0 := by omega
    exact h⟩⟩ 1
theorem str_drew (w : World) (x : Nat) (hx : x < 256) : (convert 42 9 (.slice (some ⟨w.heap.size, 0, none⟩) 1 1)).run Try.prog (w.alloc (.cells #[.int .u8 (x : Int)] 5)).drew = .ok (.string (strB [x])) (w.alloc (.cells #[.int .u8 (x : Int)] 5)).drew :=
  str_cell w _ x hx (World.cell?_alloc_new w _ _ 0)
theorem str_one (w : World) (x : Nat) (hx : x < 256) : (convert 42 9 (.slice (some ⟨w.heap.size, 0, none⟩) 1 1)).run Try.prog (w.alloc (.cells #[.int .u8 (x : Int)] 5)) = .ok (.string (strB [x])) (w.alloc (.cells #[.int .u8 (x : Int)] 5)) :=
  Bys.conv (p := some ⟨w.heap.size, 0, none⟩) (n := 1) (bs := [x]) ⟨rfl, by intro y hy; simp at hy; omega, fun _ => ⟨_, 0, rfl, fun i hi => by
    obtain rfl : i = 0 := by omega
    exact World.cell?_alloc_new w _ _ 0⟩⟩ 1

set_option maxRecDepth 100000 in
set_option maxHeartbeats 800000 in
theorem put_any (n : Nat) : ∀ (w : World), n < 18446744073709551616 →
    Calls Try.prog 55 #[.int .u64 (n : Int)] w fun e w' => e = .returned (.string (strB (numB n))) ∧ Below w.heap.size w w' := by
  induction n using numB_ind with
  | h1 n h =>
    intro w hn
    have hS := Lib.hid (numB_lo h)
    have hc := str_one w n (by omega)
    have hw8 : IntKind.u8.wrap (n : Int) = (n : Int) := by rw [IntKind.wrap_u8']; omega
    rw [hS.out]
    generalize strB [n] = T at *
    go_enter Try.func55, Try.ntmps55
    go_wp2_with fail
    go_ret
    exact ⟨rfl, (Below.refl _ _).alloc (Nat.le_refl _) _⟩
  | h2 n h ih =>
    intro w hn
    have hS : Hid (strB (numB n) = strB [n % 128 + 128] ++ strB (numB (n / 128))) := Lib.hid (by rw [numB_hi h, ← strB_append]; rfl)
    rw [hS.out]
    have hq : ((n : Int) / 128) = ((n / 128 : Nat) : Int) := by omega
    have HI : Hid (∀ w, Calls Try.prog 55 #[.int .u64 ((n : Int) / 128)] w fun e w' => e = .returned (.string (strB (numB (n / 128)))) ∧ Below w.heap.size w w') := Lib.hid (fun w => by rw [hq]; exact ih w (by omega))
    clear ih hq
    have hd : decide ((n : Int) < 128) = false := decide_eq_false (by omega)
    have hX : n % 128 + 128 < 256 := by omega
    have hw1 : IntKind.u64.wrap ((n : Int) % 128 + 128) = ((n % 128 + 128 : Nat) : Int) := by rw [wrap_u64]; omega
    have hw2 : IntKind.u8.wrap ((n % 128 + 128 : Nat) : Int) = ((n % 128 + 128 : Nat) : Int) := by rw [IntKind.wrap_u8']; omega
    have hw3 : IntKind.u64.wrap ((n : Int).tmod 128 + 128) = ((n % 128 + 128 : Nat) : Int) := by rw [Int.tmod_eq_emod_of_nonneg (by omega)]; exact hw1
    have hw4 : IntKind.u64.wrap ((n : Int) / 128) = (n : Int) / 128 := by rw [wrap_u64]; omega
    have hc := fun w => str_one w (n % 128 + 128) hX
    have hc2 := fun w => str_drew w (n % 128 + 128) hX
    have hc3 := fun w w2 => str_cell w w2 (n % 128 + 128) hX
    have HC := Lib.hid hc3
    clear hc3
    have hsz : (strB [n % 128 + 128]).size + (strB (numB (n / 128))).size ≤ 9223372036854775807 := by
      rw [strB_size, strB_size]
      have := numB_ten (n := n / 128) (by omega)
      simp; omega
    have hszi : ((strB [n % 128 + 128]).size : Int) + ((strB (numB (n / 128))).size : Int) ≤ 9223372036854775807 := by omega
    generalize n % 128 + 128 = X at *
    generalize strB [X] = T at *
    generalize strB (numB (n / 128)) = U at *
    go_enter Try.func55, Try.ntmps55
    go_wp2_with fail
    go_region_with (go_at_call 55; refine (HI.out _).mono ?_; rintro e w1 ⟨rfl, hb⟩; have HB := Lib.hid hb; clear hb; first | (have hc5 := HC.out w w1 (by rw [HB.out.cell (p := ⟨w.heap.size, 0, none⟩) (by simp)]; exact World.cell?_alloc_new w _ _ 0)) | skip)
    all_goals (go_wp2_with fail; go_ret; refine ⟨rfl, ?_⟩; have hb := HB.out; clear HB)
    all_goals first
      | exact (((Below.refl w.heap.size w).alloc (Nat.le_refl _) _).drew).trans (hb.mono (by simp))
      | exact ((Below.refl w.heap.size w).drew.trans hb).alloc hb.size _

theorem put_int (x : Int) (k : Nat) (w : World) (hk : Hid ((k : Int) = x)) (hn : k < 18446744073709551616) :
    Calls Try.prog 55 #[.int .u64 x] w fun e w' => e = .returned (.string (strB (numB k))) ∧ Below w.heap.size w w' := by
  rw [← hk.out]; exact put_any k w hn

set_option maxHeartbeats 400000 in
theorem rcount_at (x : Int) (k : Nat) (w : World) (hx0 : -9223372036854775808 ≤ x) (hx : x ≤ 9223372036854775807) (hc : k < 9223372036854775808) (HX : Hid ((k : Int) = max x 0)) :
    Calls Try.prog 37 #[.int .i64 x] w fun e w' => e = .returned (.string (strB (numB k))) ∧ Below w.heap.size w w' := by
  by_cases h0 : x < 0
  · have hy : Hid ((k : Int) = 0) := Lib.hid (by have := HX.out; omega)
    generalize hT : strB (numB k) = T
    have HT := Lib.hid hT
    clear hT
    go_enter Try.func37, Try.ntmps37
    go_wp2_with fail
    refine (put_int _ k _ hy (by omega)).mono ?_
    rintro e w1 ⟨rfl, hb⟩
    have HB := Lib.hid hb
    clear hb
    rw [HT.out]
    go_wp2_with fail
    go_ret
    exact ⟨rfl, HB.out⟩
  · have hy : Hid ((k : Int) = x) := Lib.hid (by have := HX.out; omega)
    generalize hT : strB (numB k) = T
    have HT := Lib.hid hT
    clear hT
    go_enter Try.func37, Try.ntmps37
    go_wp2_with fail
    refine (put_int _ k _ hy (by omega)).mono ?_
    rintro e w1 ⟨rfl, hb⟩
    have HB := Lib.hid hb
    clear hb
    rw [HT.out]
    go_wp2_with fail
    go_ret
    exact ⟨rfl, HB.out⟩

set_option maxHeartbeats 400000 in
theorem rwhole_any (x : Int) (w : World) (hx0 : -9223372036854775808 ≤ x) (hx : x ≤ 9223372036854775807) :
    Calls Try.prog 38 #[.int .i64 x] w fun e w' => e = .returned (.string (strB (numB (zig x)))) ∧ Below w.heap.size w w' := by
  have hz := zig_lt hx0 hx
  generalize hT : strB (numB (zig x)) = T
  have HT := Lib.hid hT
  clear hT
  by_cases h0 : x < 0
  · have hd : decide ((0 : Int) ≤ x) = false := decide_eq_false (by omega)
    have HZ : Hid ((zig x : Int) = 2 * (-x - 1) + 1) := Lib.hid (by rw [zig_neg h0]; omega)
    go_enter Try.func38, Try.ntmps38
    go_wp2_with fail
    refine (put_int _ (zig x) _ (Lib.hid (by have := HZ.out; (try simp only [wrap_u64]); omega)) hz).mono ?_
    rintro e w1 ⟨rfl, hb⟩
    have HB := Lib.hid hb
    clear hb
    rw [HT.out]
    go_wp2_with fail
    go_ret
    exact ⟨rfl, HB.out⟩
  · have hd : decide ((0 : Int) ≤ x) = true := decide_eq_true (by omega)
    have HZ : Hid ((zig x : Int) = 2 * x) := Lib.hid (by rw [zig_pos h0]; omega)
    go_enter Try.func38, Try.ntmps38
    go_wp2_with fail
    refine (put_int _ (zig x) _ (Lib.hid (by have := HZ.out; (try simp only [wrap_u64]); omega)) hz).mono ?_
    rintro e w1 ⟨rfl, hb⟩
    have HB := Lib.hid hb
    clear hb
    rw [HT.out]
    go_wp2_with fail
    go_ret
    exact ⟨rfl, HB.out⟩

set_option maxHeartbeats 400000 in
theorem rsized_any (ds : List Nat) (w : World) (hn : ds.length ≤ 1073741824) :
    Calls Try.prog 39 #[.string (strB ds)] w fun e w' => e = .returned (.string (strB (numB ds.length) ++ strB ds)) ∧ Below w.heap.size w w' := by
  have hs : (strB ds).size = ds.length := strB_size ds
  have h10 := numB_ten (n := ds.length) (by omega)
  have hl : (strB (numB ds.length)).size = (numB ds.length).length := strB_size _
  generalize ds.length = n at *
  generalize strB ds = D at *
  generalize hT : strB (numB n) = T at *
  have HT := Lib.hid hT
  have hsz : T.size + D.size ≤ 9223372036854775807 := by omega
  have hszi : (T.size : Int) + (D.size : Int) ≤ 9223372036854775807 := by omega
  have HS := Lib.hid hs
  clear hT hl
  go_enter Try.func39, Try.ntmps39
  go_wp2_with fail
  refine (rcount_at _ n _ (by omega) (by omega) (by omega) (Lib.hid (by omega))).mono ?_
  rintro e w1 ⟨rfl, hb⟩
  have HB := Lib.hid hb
  clear hb hs
  rw [HT.out]
  go_wp2_with fail
  go_ret
  exact ⟨rfl, HB.out⟩
end Go.Proofs.Ytpdihgmgcamgkaa
