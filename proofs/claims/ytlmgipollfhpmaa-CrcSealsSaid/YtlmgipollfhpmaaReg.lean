/- What a register's calls return, and what they leave. -/
import Derived.Test.YtlmgipollfhpmaaTail
import Derived.Lib.SlBytesConst
namespace Go.Proofs.Ytlmgipollfhpmaa
open Go.RowKit

set_option maxHeartbeats 400000 in
theorem new_any (w : World) :
    Calls Try.prog 15 #[] w fun e w' => e = .returned (.pointer (some ⟨w.heap.size, 0, none⟩)) ∧ w.alloc (.cells #[.int .u32 0] 50) = w' := by
  go_enter Try.func15, Try.ntmps15
  go_wp2
  go_ret
  exact ⟨rfl, rfl⟩

set_option maxHeartbeats 400000 in
theorem take_nil (p : Option Addr) (n c : Nat) (w : World) :
    Calls Try.prog 16 #[.pointer none, .slice p n c] w fun e w' => e = .returned (.tuple #[]) ∧ w = w' := by
  go_enter Try.func16, Try.ntmps16
  go_wp2
  go_end0
  exact ⟨rfl, rfl⟩

set_option maxHeartbeats 400000 in
theorem take_reg (g s : Nat) (p : Option Addr) (n c : Nat) (bs : List Nat) (w : World) (hs : s < 4294967296) (hm : n ≤ 9223372036854775807) (hB : Bys w p n bs)
    (hc : w.cell? ⟨g, 0, none⟩ = some (.int .u32 (s : Int))) (hf : w.frozen? ⟨g, 0, none⟩ = false) :
    Calls Try.prog 16 #[.pointer (some ⟨g, 0, none⟩), .slice p n c] w fun e w' => e = .returned (.tuple #[]) ∧ w.setCell ⟨g, 0, none⟩ (.int .u32 (more s bs : Nat)) = w' := by
  have HB := Lib.hid hB
  clear hB
  go_enter Try.func16, Try.ntmps16
  go_wp2_with (go_at_call 11; refine (more_any s p n c bs _ hs hm HB.out).mono ?_; rintro e w' ⟨rfl, rfl⟩)
  go_end0
  exact ⟨rfl, rfl⟩

set_option maxHeartbeats 400000 in
theorem sum_nil (w : World) : Calls Try.prog 17 #[.pointer none] w fun e w' => e = .returned (.int .u32 0) ∧ w = w' := by
  go_enter Try.func17, Try.ntmps17
  go_wp2
  go_ret
  exact ⟨rfl, rfl⟩

set_option maxHeartbeats 400000 in
theorem sum_reg (g s : Nat) (w : World) (hc : w.cell? ⟨g, 0, none⟩ = some (.int .u32 (s : Int))) :
    Calls Try.prog 17 #[.pointer (some ⟨g, 0, none⟩)] w fun e w' => e = .returned (.int .u32 (s : Int)) ∧ w = w' := by
  go_enter Try.func17, Try.ntmps17
  go_wp2
  go_ret
  exact ⟨rfl, rfl⟩

theorem lives_cell (w : World) : ∀ i, i < 9 → (w.alloc (.cells #[.int .u8 49, .int .u8 50, .int .u8 51, .int .u8 52, .int .u8 53, .int .u8 54, .int .u8 55, .int .u8 56, .int .u8 57] 5 (9, 10))).cell? ⟨w.heap.size, 0 + i, none⟩ = some (.int .u8 ((([49, 50, 51, 52, 53, 54, 55, 56, 57] : List Nat).getD i 0 : Nat) : Int)) := by
  intro i hi
  rcases (show i = 0 ∨ i = 1 ∨ i = 2 ∨ i = 3 ∨ i = 4 ∨ i = 5 ∨ i = 6 ∨ i = 7 ∨ i = 8 by omega) with rfl | rfl | rfl | rfl | rfl | rfl | rfl | rfl | rfl
  all_goals (unfold World.cell?; rw [show ∀ o, (w.alloc o).heap[w.heap.size]? = some o from fun o => by show (w.heap.push o)[w.heap.size]? = _; simp]; rfl)

theorem nine : more 0 [49, 50, 51, 52, 53, 54, 55, 56, 57] = 3421780262 := by decide +kernel

theorem sum_nine (b : Nat) (w : World) (hc : ∀ i, i < 9 → w.cell? ⟨b, 0 + i, none⟩ = some (.int .u8 ((([49, 50, 51, 52, 53, 54, 55, 56, 57] : List Nat).getD i 0 : Nat) : Int))) :
    Calls Try.prog 9 #[.slice (some ⟨b, 0, none⟩) 9 9] w fun e w' => e = .returned (.int .u32 3421780262) ∧ w = w' :=
  (sum_any (some ⟨b, 0, none⟩) 9 9 [49, 50, 51, 52, 53, 54, 55, 56, 57] w (by omega) ⟨rfl, by decide, fun _ => ⟨b, 0, rfl, fun i hi => by rw [hc i hi, map_getD]⟩⟩).mono fun e w' ⟨he, hw⟩ => ⟨by rw [he, nine]; rfl, hw⟩
theorem sum_none (w : World) :
    Calls Try.prog 9 #[.slice none 0 0] w fun e w' => e = .returned (.int .u32 0) ∧ w = w' :=
  (sum_any none 0 0 [] w (by omega) (Bys.zero w none)).mono fun e w' ⟨he, hw⟩ => ⟨by rw [he, more_nil]; rfl, hw⟩
set_option maxHeartbeats 400000 in
theorem lives_any (w : World) : Calls Try.prog 8 #[] w fun e w' => e = .returned (.bool true) ∧ Below w.heap.size w w' := by
  have hcv := fun (w : World) (C : Array Value) (n c : Nat) => Lib.run_convert_bytes_const (P := Try.prog) w 22 5 C n c Try.underlying22 Try.underlying5
  have HL := Lib.hid (lives_cell w)
  go_enter Try.func8, Try.ntmps8
  go_wp2_with fail
  refine (sum_nine w.heap.size _ HL.out).mono ?_
  rintro e w1 ⟨rfl, rfl⟩
  go_wp2_with (first
    | (go_at_call 9; refine (sum_none _).mono ?_; rintro e w1 ⟨rfl, rfl⟩)
    | (go_at_call 15; refine (new_any _).mono ?_; rintro e w1 ⟨rfl, rfl⟩))
  go_ret
  exact ⟨rfl, ((Below.refl _ _).alloc (Nat.le_refl _) _).alloc (by simp) _⟩
end Go.Proofs.Ytlmgipollfhpmaa
