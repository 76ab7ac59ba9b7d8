/- What the document's answer for sealed bytes returns. -/
import Derived.Test.YtnjlhallkgacjaaRMore
import Derived.Test.YtnjlhallkgacjaaStep
namespace Go.Proofs.Ytnjlhallkgacjaa
open Go.RowKit

theorem strB_app (a b : List Nat) : strB (a ++ b) = strOfNums (a.map Int.ofNat) ++ strOfNums (b.map Int.ofNat) := by
  unfold strB
  apply ByteArray.ext
  rw [ByteArray.data_append]
  simp [strOfNums]
set_option maxHeartbeats 800000 in
theorem rseal_any (p : Option Addr) (n c : Nat) (bs : List Nat) (w : World) (hm : n ≤ 140737488351232) (hB : Bys w p n bs) :
    Calls Try.prog 32 #[.slice p n c] w fun e w' => e = .returned (.string (strB (bs ++ tailOf (more 0 bs)))) ∧ Below w.heap.size w w' := by
  have HB := Lib.hid hB
  clear hB
  obtain ⟨S, HS⟩ : ∃ S, Hid (more 0 bs = S) := ⟨_, rfl⟩
  have hS : S < 4294967296 := by rw [← HS.out]; exact more_lt (by decide) HB.out.dig
  go_enter Try.func32, Try.ntmps32
  go_wp2_with fail
  refine (rmore_any 0 p n c bs _ (by omega) (by omega) HB.out).mono ?_
  rintro e w1 ⟨rfl, hb⟩
  rw [HS.out]
  have HW := Lib.hid hb
  clear hb
  have hc1 := (HB.out.below HW.out).conv c
  unfold strB at hc1
  have hT : Bys (w1.alloc (.cells #[.int .u8 ((S : Int) % 256), .int .u8 ((S : Int) / 256 % 256), .int .u8 ((S : Int) / 65536 % 256), .int .u8 ((S : Int) / 16777216)] 5)) (some ⟨w1.heap.size, 0, none⟩) 4 (tailOf S) := by
    have e : (#[.int .u8 ((S : Int) % 256), .int .u8 ((S : Int) / 256 % 256), .int .u8 ((S : Int) / 65536 % 256), .int .u8 ((S : Int) / 16777216)] : Array Value) = (u8s (tailOf S)).toArray := by
      have e4 : S / 16777216 % 256 = S / 16777216 := by omega
      simp [u8s, tailOf, e4]
    rw [e]
    refine ⟨rfl, by intro x hx; simp [tailOf] at hx; omega, fun _ => ⟨w1.heap.size, 0, rfl, fun i hi => ?_⟩⟩
    rw [cell_of_row _ _ _ _ _ _ (heap_alloc_new w1 _), List.getElem?_toArray, Nat.zero_add, u8s_get _ _ hi]
  have hc2 := hT.conv 4
  unfold strB at hc2
  clear hT
  have HR : Hid (strOfNums (bs.map Int.ofNat) ++ strOfNums ((tailOf S).map Int.ofNat) = strB (bs ++ tailOf (more 0 bs))) := Lib.hid (by rw [HS.out]; exact (strB_app bs (tailOf S)).symm)
  have hsz : ¬ 9223372036854775807 < (strOfNums (bs.map Int.ofNat)).size + (strOfNums ((tailOf S).map Int.ofNat)).size := by
    rw [strOfNums_size, strOfNums_size, List.length_map, List.length_map, HB.out.len, tail_len]; omega
  generalize strOfNums (bs.map Int.ofNat) = A1 at *
  generalize strOfNums ((tailOf S).map Int.ofNat) = A2 at *
  go_wp2_with fail
  go_ret
  exact ⟨by rw [← HR.out]; rfl, HW.out.alloc HW.out.size _⟩

end Go.Proofs.Ytnjlhallkgacjaa
