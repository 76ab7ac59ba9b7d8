/- What the document's number returns. -/
import Derived.Test.YtnjlhallkgacjaaDec
import Derived.Test.YtnjlhallkgacjaaRSeal
namespace Go.Proofs.Ytnjlhallkgacjaa
open Go.RowKit

theorem be_cons (i n : Nat) : be (i + 1) n = (n / 256 ^ i % 256) :: be i n := by
  induction i generalizing n with
  | zero => show [] ++ [n % 256] = _; rw [Nat.pow_zero, Nat.div_one]; rfl
  | succ i ih =>
    show be (i + 1) (n / 256) ++ [n % 256] = _
    rw [ih, Nat.div_div_eq_div_mul, ← Nat.pow_succ']
    rfl
theorem strB_size' (l : List Nat) : (strB l).size = l.length := by unfold strB; rw [strOfNums_size, List.length_map]
set_option maxHeartbeats 800000 in
theorem number_any5 (n k : Nat) (w : World) (hn : n ≤ 4611686018427387904) (hk : k ≤ 8) :
    Calls Try.prog 31 #[.int .i64 (n : Int), .int .i64 (k : Int)] w fun e w' => e = .returned (.string (strB (be k n))) ∧ Below w.heap.size w w' := by
  have H0 := Lib.hid (Below.refl w.heap.size w)
  go_enter Try.func31, Try.ntmps31
  go_wp2_with fail
  go_loopw [0, 5, 6] (fun nv sv iv wr => ∃ j m : Nat, j ≤ k ∧ iv = .int .i64 (j : Int) ∧ nv = .int .i64 (m : Int) ∧ m = n / 256 ^ j ∧ sv = .string (strB (be j n)) ∧ Hid (Below w.heap.size w wr)) (fun _ _ iv _ => k - (intOf iv).toNat)
  case atStart => exact ⟨0, n, by omega, by go_num, rfl, by rw [Nat.pow_zero, Nat.div_one], rfl, H0⟩
  case round =>
    obtain ⟨j, m, hj, rfl, rfl, hm, rfl, HB⟩ := hrel
    have hmn : m ≤ 4611686018427387904 := by
      have := Nat.div_le_self n (256 ^ j)
      omega
    by_cases hlt : j < k
    · have HC := Lib.hid (be_cons j n)
      have HM : Hid (m / 256 = n / 256 ^ (j + 1)) := Lib.hid (by rw [hm, Nat.div_div_eq_div_mul, ← Nat.pow_succ])
      have HA := Lib.hid (strB_app [m % 256] (be j n))
      rw [← hm] at HC
      have hT : Bys (wr.alloc (.cells #[.int .u8 ((m : Int) % 256)] 5)) (some ⟨wr.heap.size, 0, none⟩) 1 [m % 256] :=
        ⟨rfl, by intro x hx; simp at hx; omega, fun _ => ⟨wr.heap.size, 0, rfl, fun i hi => by
          obtain rfl : i = 0 := by omega
          rw [cell_of_row _ _ _ _ _ _ (heap_alloc_new wr _)]; rfl⟩⟩
      have hcv := hT.conv 1
      have hsz : ¬ 9223372036854775807 < (strB [m % 256]).size + (strB (be j n)).size := by
        rw [strB_size', strB_size', be_len]; simp; omega
      have HS2 : Hid (strB [m % 256] ++ strB (be j n) = strB (be (j + 1) n)) := Lib.hid (by rw [HC.out]; exact HA.out.symm)
      have HW2 : Hid (Below w.heap.size w (wr.alloc (.cells #[.int .u8 ((m : Int) % 256)] 5))) := Lib.hid (HB.out.alloc HB.out.size _)
      clear hT HA HC hm HB H0
      generalize strB [m % 256] = A1 at *
      generalize strB (be j n) = A2 at *
      go_wp2_with fail
      go_roundw
      case rel => exact ⟨j + 1, m / 256, by omega, by go_num, by go_num, HM.out, by rw [HS2.out], HW2⟩
      case measure => simp [intOf]; omega
    · obtain rfl : j = k := by omega
      go_wp2_with fail
      go_ret
      exact ⟨rfl, HB.out⟩
end Go.Proofs.Ytnjlhallkgacjaa
