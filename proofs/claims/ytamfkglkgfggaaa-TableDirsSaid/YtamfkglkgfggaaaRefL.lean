/- The document's own: the number of four bytes; bytes loaded into a row. -/
import Derived.Test.YtamfkglkgfggaaaRefT
set_option linter.unusedSimpArgs false
namespace Go.Proofs.Ytamfkglkgfggaaa
open Go.RowKit

set_option maxRecDepth 100000 in
set_option maxHeartbeats 1600000 in
theorem value_any (p : Option Addr) (n c : Nat) (bs : List Nat) (a : Nat) (w : World) (hB : Bys w p n bs) (ha : a + 4 ≤ n) (hn : n ≤ 1099511627776) :
    Calls Try.prog 37 #[.slice p n c, .int .i64 (a : Int)] w fun e w' => e = .returned (.int .i64 ((bs.getD a 0 * 16777216 + bs.getD (a + 1) 0 * 65536 + bs.getD (a + 2) 0 * 256 + bs.getD (a + 3) 0 : Nat) : Int)) ∧ Below w.heap.size w w' := by
  obtain ⟨b, o, rfl, hc⟩ := hB.at (by omega)
  have HC := Lib.hid hc
  have hlt := World.block_lt_of_cell? w _ (hc a (by omega))
  have l0 : ∀ s : In w, s.1.cell? ⟨b, o + a, none⟩ = some (.int .u8 ((bs.getD a 0 : Nat) : Int)) := fun s => (s.2.cell (p := ⟨b, o + a, none⟩) hlt).trans (HC.out a (by omega))
  have l1 : ∀ s : In w, s.1.cell? ⟨b, o + (a + 1), none⟩ = some (.int .u8 ((bs.getD (a + 1) 0 : Nat) : Int)) := fun s => (s.2.cell (p := ⟨b, o + (a + 1), none⟩) hlt).trans (HC.out (a + 1) (by omega))
  have l2 : ∀ s : In w, s.1.cell? ⟨b, o + (a + 2), none⟩ = some (.int .u8 ((bs.getD (a + 2) 0 : Nat) : Int)) := fun s => (s.2.cell (p := ⟨b, o + (a + 2), none⟩) hlt).trans (HC.out (a + 2) (by omega))
  have l3 : ∀ s : In w, s.1.cell? ⟨b, o + (a + 3), none⟩ = some (.int .u8 ((bs.getD (a + 3) 0 : Nat) : Int)) := fun s => (s.2.cell (p := ⟨b, o + (a + 3), none⟩) hlt).trans (HC.out (a + 3) (by omega))
  have b0 : ((bs.getD a 0 : Nat) : Int) < 256 := by have := hB.getD a; omega
  have b1 : ((bs.getD (a + 1) 0 : Nat) : Int) < 256 := by have := hB.getD (a + 1); omega
  have b2 : ((bs.getD (a + 2) 0 : Nat) : Int) < 256 := by have := hB.getD (a + 2); omega
  have b3 : ((bs.getD (a + 3) 0 : Nat) : Int) < 256 := by have := hB.getD (a + 3); omega
  have haz : (a : Int) + 4 ≤ (n : Int) := by omega
  have hnz : (n : Int) ≤ 1099511627776 := by omega
  have i1 : ((a : Int) + 1).toNat = a + 1 := by omega
  have i2 : ((a : Int) + 2).toNat = a + 2 := by omega
  have i3 : ((a : Int) + 3).toNat = a + 3 := by omega
  have HA := Lib.hid ha
  clear hB hc ha hn hlt
  generalize bs.getD a 0 = y0 at *
  generalize bs.getD (a + 1) 0 = y1 at *
  generalize bs.getD (a + 2) 0 = y2 at *
  generalize bs.getD (a + 3) 0 = y3 at *
  have c0 : (0 : Int) ≤ (y0 : Int) := Int.natCast_nonneg _
  have c1 : (0 : Int) ≤ (y1 : Int) := Int.natCast_nonneg _
  have c2 : (0 : Int) ≤ (y2 : Int) := Int.natCast_nonneg _
  have c3 : (0 : Int) ≤ (y3 : Int) := Int.natCast_nonneg _
  have hR : (y0 : Int) * 16777216 + (y1 : Int) * 65536 + (y2 : Int) * 256 + (y3 : Int) = ((y0 * 16777216 + y1 * 65536 + y2 * 256 + y3 : Nat) : Int) := by omega
  rw [← hR]
  clear hR
  have hne := In.some w
  go_enter Try.func37, Try.ntmps37
  go_upto_region 1 with fail
  refine region_in w (by kernel_rfl) (by kernel_rfl) (Below.refl _ _) ?_
  repeat (go_big_quiet_step (fail))
  refine wpQuiet_nil ?_
  intro w12 hw'
  have hb12 : Below w.heap.size w w12 := by
    obtain ⟨⟨wz, hbz⟩, hw''⟩ := hw'
    subst hw''
    exact hbz
  clear hw'
  go_wp2_with fail
  go_ret
  exact ⟨rfl, hb12⟩
theorem val_any (p : Option Addr) (n c : Nat) (bs : List Nat) (k : Nat) (w : World) (hB : Bys w p n bs) (hk : 4 * k + 4 ≤ n) (hn : n ≤ 1099511627776) :
    Calls Try.prog 37 #[.slice p n c, .int .i64 (4 * (k : Int))] w fun e w' => e = .returned (.int .i64 ((valB bs k : Nat) : Int)) ∧ Below w.heap.size w w' := by
  have := value_any p n c bs (4 * k) w hB hk hn
  rwa [show ((4 * k : Nat) : Int) = 4 * (k : Int) by omega] at this
end Go.Proofs.Ytamfkglkgfggaaa
