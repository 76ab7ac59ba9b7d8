/- What the bytes of a sum are, in memory of the call's own. -/
import Derived.Test.YtnjlhallkgacjaaTake
import Derived.Laws.OwnMore
namespace Go.Proofs.Ytnjlhallkgacjaa
open Go.RowKit

def TailSt (B g s k : Nat) (w wr : World) : Prop := wr.ownsRow B 5 1 (.slice (some ⟨g, 0, none⟩) 4 4) 4 (u8s ((tailOf s).take k ++ List.replicate (4 - k) 0)) ∧ Below B w wr
theorem tail_put {B g s k : Nat} {w wr : World} (h : TailSt B g s k w wr) (hg : B ≤ g) (x : Nat) (hx : (((tailOf s).take k ++ List.replicate (4 - k) 0).set k x) = (tailOf s).take (k + 1) ++ List.replicate (4 - (k + 1)) 0) :
    TailSt B g s (k + 1) w (wr.setCell ⟨g, k, none⟩ (.int .u8 (x : Int))) := by
  refine ⟨?_, h.2.setCell hg _⟩
  have h2 := h.1.stored k (.int .u8 (x : Int))
  rw [← hx]
  have e : u8s (((tailOf s).take k ++ List.replicate (4 - k) 0).set k x) = (u8s ((tailOf s).take k ++ List.replicate (4 - k) 0)).set k (.int .u8 (x : Int)) := by
    unfold u8s; rw [List.map_set]
  rw [e]; exact h2.1

set_option maxHeartbeats 400000 in
theorem tail_any (s : Nat) (w : World) (hs : s < 4294967296) :
    Calls Try.prog 40 #[.int .u32 s] w fun e w' => (∃ g, e = .returned (.slice (some ⟨g, 0, none⟩) 4 4) ∧ Bys w' (some ⟨g, 0, none⟩) 4 (tailOf s)) ∧ Below w.heap.size w w' := by
  have hmk : ∀ w : World, (Instr.makeSlice 45 (.int .i64 4) (.int .i64 4)).run Try.prog w = .ok (.slice (some ⟨w.heap.size, 0, none⟩) 4 4) (w.alloc (.cells #[.int .u8 0, .int .u8 0, .int .u8 0, .int .u8 0] 5)) := fun w => by
    obtain ⟨i0, hi, hz0, hz1, hz2⟩ := info_parts Try.info5
    have h := run_make (P := Try.prog) w 45 5 i0 _ Try.underlying45 hi hz0 .i64 .i64 4 4 (by omega) (by omega) (by rw [hz2]; decide) (by omega)
    rw [hz1, show madeCells (Value.int IntKind.u8 0).cells (Int.toNat 4 * 1) = #[.int .u8 0, .int .u8 0, .int .u8 0, .int .u8 0] by kernel_rfl] at h
    exact h
  have H0 : Hid (TailSt w.heap.size w.heap.size s 0 w (w.alloc (.cells #[.int .u8 0, .int .u8 0, .int .u8 0, .int .u8 0] 5))) :=
    Lib.hid ⟨World.ownsRow_lit w _ 4 (Nat.le_refl _) (by decide) rfl, (Below.refl _ _).alloc (Nat.le_refl _) _⟩
  have HG := Lib.hid (Nat.le_refl w.heap.size)
  go_enter Try.func40, Try.ntmps40
  go_wp2_with fail
  clear hmk
  generalize (w.alloc (.cells #[.int .u8 0, .int .u8 0, .int .u8 0, .int .u8 0] 5)) = W at *
  go_loopw [4, 6] (fun _ iv wr => ∃ k : Nat, k ≤ 4 ∧ iv = .int .i64 (k : Int) ∧ TailSt w.heap.size w.heap.size s k w wr) (fun _ i _ => 4 - (intOf i).toNat)
  case atStart => exact ⟨0, by omega, by go_num, H0.out⟩
  case round =>
    obtain ⟨k, hk, rfl, hT⟩ := hrel
    by_cases hlt : k < 4
    · rcases (show k = 0 ∨ k = 1 ∨ k = 2 ∨ k = 3 by omega) with rfl | rfl | rfl | rfl
      · have hc := (hT.1.cellAt 0 (by omega)).trans (u8s_get _ 0 (by simp [tailOf]))
        have hf := hT.1.frozenAt 0
        have HT := Lib.hid hT
        clear hT
        go_wp2_with fail
        go_roundw
        case rel => exact ⟨1, by omega, by go_num, tail_put HT.out (Nat.le_refl _) (s % 256) rfl⟩
        case measure => simp [intOf]
      · have hc := (hT.1.cellAt 1 (by omega)).trans (u8s_get _ 1 (by simp [tailOf]))
        have hf := hT.1.frozenAt 1
        have HT := Lib.hid hT
        clear hT
        go_wp2_with fail
        go_roundw
        case rel => exact ⟨2, by omega, by go_num, tail_put HT.out (Nat.le_refl _) (s / 256 % 256) rfl⟩
        case measure => simp [intOf]
      · have hc := (hT.1.cellAt 2 (by omega)).trans (u8s_get _ 2 (by simp [tailOf]))
        have hf := hT.1.frozenAt 2
        have HT := Lib.hid hT
        clear hT
        go_wp2_with fail
        go_roundw
        case rel => exact ⟨3, by omega, by go_num, tail_put HT.out (Nat.le_refl _) (s / 65536 % 256) rfl⟩
        case measure => simp [intOf]
      · have hc := (hT.1.cellAt 3 (by omega)).trans (u8s_get _ 3 (by simp [tailOf]))
        have hf := hT.1.frozenAt 3
        have HT := Lib.hid hT
        clear hT
        go_wp2_with fail
        go_roundw
        case rel => exact ⟨4, by omega, by go_num, tail_put HT.out (Nat.le_refl _) (s / 16777216) (by simp [tailOf]; omega)⟩
        case measure => simp [intOf]
    · obtain rfl : k = 4 := by omega
      have hT2 := hT
      clear hT
      have HE : Hid (Bys wr (some ⟨w.heap.size, 0, none⟩) 4 (tailOf s)) := Lib.hid (Bys.of_row hT2.1 (by intro x hx; simp [tailOf] at hx; omega))
      have HB := Lib.hid hT2.2
      clear hT2
      go_wp2_with fail
      go_ret
      exact ⟨⟨_, rfl, HE.out⟩, HB.out⟩
end Go.Proofs.Ytnjlhallkgacjaa
