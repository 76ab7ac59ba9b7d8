/- What sealed bytes are, in memory of the call's own. -/
import Derived.Test.YtnjlhallkgacjaaTail
import Derived.Laws.CopyOwn
import Derived.OwnWalk
namespace Go.Proofs.Ytnjlhallkgacjaa
open Go.RowKit

set_option maxHeartbeats 400000 in
theorem seal_any (p : Option Addr) (n c : Nat) (bs : List Nat) (w : World) (hm : n ≤ 140737488351232) (hB : Bys w p n bs) :
    Calls Try.prog 27 #[.slice p n c] w fun e w' => e = .returned (.slice (some ⟨w.heap.size, 0, none⟩) (n + 4) (n + 4)) ∧ w'.ownsRow w.heap.size 5 1 (.slice (some ⟨w.heap.size, 0, none⟩) (n + 4) (n + 4)) (n + 4) (u8s (bs ++ tailOf (more 0 bs))) ∧ Below w.heap.size w w' := by
  obtain ⟨i0, hi, hz0, hz1, hz2⟩ := info_parts Try.info5
  obtain ⟨C0, HC⟩ : ∃ C0, Hid (madeCells (Value.int IntKind.u8 0).cells (n + 4) = C0) := ⟨_, rfl⟩
  have HCs : Hid (C0.size = n + 4) := by rw [← HC.out]; exact Lib.hid (size_madeCells _ _)
  have hmk : ∀ w : World, (Instr.makeSlice 45 (.int .i64 (n : Int)) (.int .i64 ((n : Int) + 4))).run Try.prog w = .ok (.slice (some ⟨w.heap.size, 0, none⟩) n (n + 4)) (w.alloc (.cells C0 5)) := fun w => by
    have h := run_make (P := Try.prog) w 45 5 i0 _ Try.underlying45 hi hz0 .i64 .i64 n (n + 4) (by omega) (by omega) (by rw [hz2]; omega) (by omega)
    rw [hz1, show ((n : Int) + 4).toNat = n + 4 by omega, Int.toNat_natCast, Nat.mul_one, HC.out] at h
    exact h
  have HB := Lib.hid hB
  have HI := Lib.hid hi
  have HZ := Lib.hid hz1
  clear hB hi hz0 hz1 hz2
  have HL : Hid ((u8s bs).length = n) := by rw [u8s_len]; exact Lib.hid HB.out.len
  have hl0 : (Try.prog.info? 5).map (·.size) = some 1 := by kernel_rfl
  have HP := Lib.hid hl0
  clear hl0
  have K1 : Hid ((w.alloc (.cells C0 5)).heap[w.heap.size]? = some (.cells C0.toList.toArray 5 (0, 0))) := Lib.hid (by show (w.heap.push _)[w.heap.size]? = _; simp)
  have K2 : Hid ((u8s bs).length = n.min n) := Lib.hid (by rw [HL.out]; exact (Nat.min_self n).symm)
  have K5 : Hid (Below w.heap.size w (w.alloc (.cells C0 5))) := Lib.hid ((Below.refl _ _).alloc (Nat.le_refl _) _)
  have K3 : Hid (0 < (u8s bs).length → some (⟨w.heap.size, 0, none⟩ : Addr) = some ⟨w.heap.size, 0, none⟩ ∧ ∃ ad, p = some ad ∧ ∀ j v, (u8s bs)[j]? = some v → (w.alloc (.cells C0 5)).cell? (ad.add j) = some v) :=
    Lib.hid fun h => ⟨rfl, (HB.out.below K5.out).cells (by rw [HL.out] at h; exact h)⟩
  have K4 : Hid (0 + (u8s bs).length ≤ C0.toList.length) := Lib.hid (by rw [HL.out, Array.length_toList, HCs.out]; omega)
  go_enter Try.func27, Try.ntmps27
  go_wp2_with (with_reducible refine wpList_copy_splice (w := w.alloc (.cells C0 5)) rfl (.tmp 10) (.tmp 11) 45 45 rfl 5 Try.underlying45 HP.out (some ⟨w.heap.size, 0, none⟩) p n (n + 4) n c rfl rfl w.heap.size 0 C0.toList 5 K1.out (u8s bs) K2.out K3.out K4.out (u8s_one bs) w.heap.size w K5.out (Nat.le_refl _) ?_)
  clear hmk
  intro w2 hheap hb2
  have HB2 := Lib.hid hb2
  have HO : Hid (w2.ownsRow w.heap.size 5 1 (.slice (some ⟨w.heap.size, 0, none⟩) n (n + 4)) n (u8s bs)) := Lib.hid ⟨by rw [HL.out, Nat.mul_one], .inr ⟨w.heap.size, n + 4, _, rfl, Nat.le_refl _, hheap.out, by omega, by unfold maxLen; omega, by
      rw [List.size_toArray, length_splice _ _ _ K4.out, Array.length_toList, HCs.out, Nat.mul_one], by
      show List.take (n * 1) (splice C0.toList 0 (u8s bs)) = u8s bs
      rw [Nat.mul_one]
      unfold splice
      rw [List.take_zero, List.nil_append, List.take_append_of_le_length (by rw [HL.out]; exact Nat.le_refl _), List.take_of_length_le (by rw [HL.out]; exact Nat.le_refl _)]⟩⟩
  clear hheap hb2 K1 K2 K3 K4 K5
  go_wp2_with fail
  refine (sum_any p n c bs _ (by omega) (HB.out.below HB2.out)).mono ?_
  rintro e w3 ⟨rfl, rfl⟩
  have hs := more_lt (s := 0) (by decide) HB.out.dig
  generalize hS : more 0 bs = S at *
  have HS := Lib.hid hS
  clear hS
  go_wp2_with fail
  refine (tail_any S _ hs).mono ?_
  rintro e w3 ⟨⟨g, rfl, hT⟩, hb3⟩
  have HO3 := Lib.hid (own_below HO.out hb3)
  have HB3 := Lib.hid (HB2.out.trans (hb3.mono HB2.out.size))
  have K7 : Hid (∀ j u, (u8s (tailOf S))[j]? = some u → w3.cell? ((⟨g, 0, none⟩ : Addr).add j) = some u) := Lib.hid (by
    obtain ⟨ad, e, h⟩ := hT.cells (by omega)
    cases e
    exact h)
  have KL : Hid ((u8s (tailOf S)).length = 4 * 1) := Lib.hid (by rw [u8s_len]; rfl)
  clear hT hb3
  go_wp2_with (with_reducible refine wpList_append_fits w3 rfl (.tmp 13) (.tmp 16) 45 rfl w.heap.size 5 i0 1 Try.underlying45 HI.out HZ.out w.heap.size n (n + 4) (u8s bs) rfl HO3.out ⟨g, 0, none⟩ 4 4 (u8s (tailOf S)) rfl KL.out K7.out (u8s_one _) (Nat.le_refl _) ?_)
  intro w4 hown hgrow
  have HO4 := Lib.hid hown
  have HB4 := Lib.hid (HB3.out.grown hgrow HB3.out.size (fun k e => by cases e; exact Nat.le_refl _))
  clear hown hgrow
  go_wp2_with fail
  go_ret
  exact ⟨rfl, by rw [u8s_append, HS.out]; exact HO4.out, HB4.out⟩
end Go.Proofs.Ytnjlhallkgacjaa
