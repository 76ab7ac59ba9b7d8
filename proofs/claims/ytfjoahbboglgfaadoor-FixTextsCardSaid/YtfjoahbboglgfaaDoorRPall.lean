/- The document's Parse of any text that has no digit, and to any base that may not be. -/
import Derived.Test.YtfjoahbboglgfaaDoorRParse
namespace Go.Proofs.YtfjoahbboglgfaaDoor
open Go.RowKit

set_option maxHeartbeats 800000 in
theorem rparse_0 (b : Nat) (w : World) (hb : 2 ≤ b) (hb2 : b ≤ 16) :
    Calls Tryd.prog 29 #[.string ⟨#[]⟩, .int .i64 (b : Int)] w fun e w' => e = .returned (.tuple #[.int .i64 0, .int .i64 4]) ∧ Below w.heap.size w w' := by
  have hbd1 : decide ((b : Int) < 2) = false := decide_eq_false (by omega)
  have hbd2 : decide ((16 : Int) < (b : Int)) = false := decide_eq_false (by omega)
  go_enter Tryd.func29, Tryd.ntmps29
  go_wp2_with fail
  go_ret2
  exact ⟨rfl, (Below.refl _ _).alloc (Nat.le_refl _) _⟩
set_option maxHeartbeats 800000 in
theorem rparse_45 (b : Nat) (w : World) (hb : 2 ≤ b) (hb2 : b ≤ 16) :
    Calls Tryd.prog 29 #[.string ⟨#[45]⟩, .int .i64 (b : Int)] w fun e w' => e = .returned (.tuple #[.int .i64 0, .int .i64 4]) ∧ Below w.heap.size w w' := by
  have hbd1 : decide ((b : Int) < 2) = false := decide_eq_false (by omega)
  have hbd2 : decide ((16 : Int) < (b : Int)) = false := decide_eq_false (by omega)
  go_enter Tryd.func29, Tryd.ntmps29
  go_wp2_with fail
  go_ret2
  exact ⟨rfl, by first | exact (Below.refl _ _).alloc (Nat.le_refl _) _ | exact ((Below.refl _ _).alloc (Nat.le_refl _) _).setCell (Nat.le_refl _) _⟩
set_option maxHeartbeats 800000 in
theorem rparse_43 (b : Nat) (w : World) (hb : 2 ≤ b) (hb2 : b ≤ 16) :
    Calls Tryd.prog 29 #[.string ⟨#[43]⟩, .int .i64 (b : Int)] w fun e w' => e = .returned (.tuple #[.int .i64 0, .int .i64 4]) ∧ Below w.heap.size w w' := by
  have hbd1 : decide ((b : Int) < 2) = false := decide_eq_false (by omega)
  have hbd2 : decide ((16 : Int) < (b : Int)) = false := decide_eq_false (by omega)
  go_enter Tryd.func29, Tryd.ntmps29
  go_wp2_with fail
  go_ret2
  exact ⟨rfl, by first | exact (Below.refl _ _).alloc (Nat.le_refl _) _ | exact ((Below.refl _ _).alloc (Nat.le_refl _) _).setCell (Nat.le_refl _) _⟩
set_option maxHeartbeats 800000 in
theorem rparse_no (b : Int) (s : ByteArray) (w : World) (hb : b < 2 ∨ 16 < b) :
    Calls Tryd.prog 29 #[.string s, .int .i64 b] w fun e w' => e = .returned (.tuple #[.int .i64 0, .int .i64 1]) ∧ w = w' := by
  by_cases h : b < 2
  · clear hb
    go_enter Tryd.func29, Tryd.ntmps29
    go_wp2_with fail
    go_ret2
    exact ⟨rfl, rfl⟩
  · have h2 : 16 < b := by omega
    clear hb
    go_enter Tryd.func29, Tryd.ntmps29
    go_wp2_with fail
    go_ret2
    exact ⟨rfl, rfl⟩

end Go.Proofs.YtfjoahbboglgfaaDoor
