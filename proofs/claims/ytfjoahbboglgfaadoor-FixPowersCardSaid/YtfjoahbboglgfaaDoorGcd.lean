/- The greatest divisor of any two numbers, as package fix returns it. -/
import Derived.Test.YtfjoahbboglgfaaDoorFmt
namespace Go.Proofs.YtfjoahbboglgfaaDoor
open Go.RowKit

theorem gcd_step (x y : Int) : Int.gcd y (x.tmod y) = Int.gcd x y := by
  unfold Int.gcd
  rw [Int.natAbs_tmod]
  rcases Nat.eq_zero_or_pos y.natAbs with h | h
  · rw [h]; simp
  · rw [Nat.gcd_comm x.natAbs, Nat.gcd_rec y.natAbs x.natAbs, Nat.gcd_comm]

set_option maxHeartbeats 1600000 in
set_option maxRecDepth 100000 in
theorem gcd_any (a b : Int) (w : World) (h1 : -9223372036854775808 ≤ a) (h2 : a ≤ 9223372036854775807) (h3 : -9223372036854775808 ≤ b) (h4 : b ≤ 9223372036854775807) :
    Calls Tryd.prog 25 #[.int .i64 a, .int .i64 b] w fun e w' => e = .returned (.tuple #[.int .i64 (fitV (Int.gcd a b : Int)), .bool (fitB (Int.gcd a b : Int))]) ∧ Below w.heap.size w w' := by
  go_enter Tryd.func25, Tryd.ntmps25
  go_wp2_with fail
  go_loopw [0, 1] (fun xv yv wr => ∃ x y : Int, xv = .int .i64 x ∧ yv = .int .i64 y ∧ -9223372036854775808 ≤ x ∧ x ≤ 9223372036854775807 ∧ -9223372036854775808 ≤ y ∧ y ≤ 9223372036854775807 ∧ Hid (Int.gcd x y = Int.gcd a b) ∧ ∃ n, wr = w.drewN n) (fun _ yv _ => (intOf yv).natAbs)
  case atStart => exact ⟨a, b, rfl, rfl, h1, h2, h3, h4, rfl, 0, rfl⟩
  case round =>
    obtain ⟨x, y, rfl, rfl, hx1, hx2, hy1, hy2, HG, n, rfl⟩ := hrel
    by_cases hy : y = 0
    · subst hy
      have hg : (Int.gcd a b) = x.natAbs := by rw [← HG.out]; simp
      have hc := abs_any x
      rw [← hg] at hc
      have HC := Lib.hid hc
      clear hc hg
      go_wp2_with fail
      refine (HC.out _ hx1 hx2).mono ?_
      rintro e w' ⟨rfl, rfl⟩
      go_wp2_with fail
      go_ret2
      exact ⟨rfl, below_drewN (Below.refl _ _) _⟩
    · have hyb : (y != 0) = true := by simpa using hy
      have hbd := tmod_bd x y hy
      have hlo : -9223372036854775808 ≤ x.tmod y := by omega
      have hhi : x.tmod y ≤ 9223372036854775807 := by omega
      have HS := Lib.hid ((gcd_step x y).trans HG.out)
      have HBD := Lib.hid hbd
      clear hbd
      have hy0 : y ≠ 0 := hy
      go_wp2_with fail
      go_quiet (fail)
      go_wp2_with fail
      go_roundw
      case rel => exact ⟨y, x.tmod y, rfl, rfl, hy1, hy2, hlo, hhi, HS.out, _, by first | rfl | (simp only [World.drewN_drewN]; rfl)⟩
      case measure => exact HBD.out

end Go.Proofs.YtfjoahbboglgfaaDoor
