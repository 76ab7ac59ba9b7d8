/- What DiskTorn returns where it is not gone through: true. -/
import Derived.Test.YtdldjpgbifcljaaTorn1
namespace Go.Proofs.Ytdldjpgbifcljaa
open Go.RowKit

set_option maxRecDepth 100000 in
set_option maxHeartbeats 3200000 in
theorem torn_heavy (a0 : Option Addr) (n0 c0 : Nat) (f0 : Nat → Opv) (o : Opv) (W : World) (hn0 : n0 ≤ 9223372036854775807) (hO0 : Ops W a0 n0 f0) (hh : ¬ (Light n0 f0 ∧ o.nk ≤ 100)) :
    Calls Try.prog 5 #[.slice a0 n0 c0, o.val] W fun e w' => e = .returned (.bool true) ∧ Below W.heap.size W w' := by
  have HO0 := Lib.hid hO0
  have HH := Lib.hid hh
  clear hO0 hh
  obtain ⟨kind, at_, num, torn, long, y, p, nk, ck, keep⟩ := o
  change Calls _ _ #[_, .agg #[.int .i64 kind, .int .i64 at_, .int .i64 num, .int .i64 torn, .int .i64 long, .int .u8 (y : Int), .slice p nk ck]] _ _
  simp only at HH
  have HB0 : Hid (Below W.heap.size W (W.alloc (.cells #[.int .i64 kind, .int .i64 at_, .int .i64 num, .int .i64 torn, .int .i64 long, .int .u8 (y : Int), .slice p nk ck] 39))) := Lib.hid ((Below.refl _ _).alloc (Nat.le_refl _) _)
  go_enter Try.func5, Try.ntmps5
  by_cases h0 : Light n0 f0
  · have hk : decide ((100 : Int) < (nk : Int)) = true := decide_eq_true (by have := HH.out; have : ¬ nk ≤ 100 := fun h => this ⟨h0, h⟩; omega)
    go_wp2_with fail
    refine (light_yes a0 n0 c0 f0 _ (tops_below HO0.out HB0.out) h0).mono ?_
    rintro e w2 ⟨rfl, rfl⟩
    go_wp2_with fail
    refine (lives_any _).mono ?_
    rintro e w4 ⟨rfl, hb⟩
    have HB := Lib.hid (HB0.out.trans (hb.mono HB0.out.size))
    go_wp2_with fail
    go_ret
    exact ⟨rfl, HB.out⟩
  · go_wp2_with fail
    refine (light_no a0 n0 c0 f0 _ hn0 (tops_below HO0.out HB0.out) h0).mono ?_
    rintro e w2 ⟨rfl, rfl⟩
    go_wp2_with fail
    refine (lives_any _).mono ?_
    rintro e w4 ⟨rfl, hb⟩
    have HB := Lib.hid (HB0.out.trans (hb.mono HB0.out.size))
    go_wp2_with fail
    go_ret
    exact ⟨rfl, HB.out⟩
set_option maxRecDepth 100000 in
set_option maxHeartbeats 3200000 in
theorem torn_light (a0 : Option Addr) (n0 c0 : Nat) (f0 : Nat → Opv) (o : Opv) (W : World) (hO0 : Ops W a0 n0 f0) (h0 : Light n0 f0) (hk : o.nk ≤ 100) (hK : Kp W o.p o.nk o.keep) (HX : Hid (¬ (0 ≤ o.torn ∧ o.torn < (runM (newM 4) f0 n0).row.length ∧ (runM (newM 4) f0 n0).down = false))) :
    Calls Try.prog 5 #[.slice a0 n0 c0, o.val] W fun e w' => e = .returned (.bool true) ∧ Below W.heap.size W w' := by
  have HO0 := Lib.hid hO0
  have HL0 := Lib.hid h0
  have hn0 := h0.1
  clear hO0 h0
  obtain ⟨kind, at_, num, torn, long, y, p, nk, ck, keep⟩ := o
  change Calls _ _ #[_, .agg #[.int .i64 kind, .int .i64 at_, .int .i64 num, .int .i64 torn, .int .i64 long, .int .u8 (y : Int), .slice p nk ck]] _ _
  simp only at hk hK HX
  have HK := Lib.hid hK
  clear hK
  have hk2 : decide ((100 : Int) < (nk : Int)) = false := decide_eq_false (by omega)
  have HB0 : Hid (Below W.heap.size W (W.alloc (.cells #[.int .i64 kind, .int .i64 at_, .int .i64 num, .int .i64 torn, .int .i64 long, .int .u8 (y : Int), .slice p nk ck] 39))) := Lib.hid ((Below.refl _ _).alloc (Nat.le_refl _) _)
  have HX0 : Hid (BoxO (W.alloc (.cells #[.int .i64 kind, .int .i64 at_, .int .i64 num, .int .i64 torn, .int .i64 long, .int .u8 (y : Int), .slice p nk ck] 39)) W.heap.size ⟨kind, at_, num, torn, long, y, p, nk, ck, keep⟩) := Lib.hid ⟨heap_alloc_new W _⟩
  go_enter Try.func5, Try.ntmps5
  go_upto_region 1 with fail
  generalize W.alloc (.cells #[.int .i64 kind, .int .i64 at_, .int .i64 num, .int .i64 torn, .int .i64 long, .int .u8 (y : Int), .slice p nk ck] 39) = w1 at *
  have k6 := HX0.out.c6
  simp only at k6
  go_wp2_with fail
  refine (light_yes a0 n0 c0 f0 _ (tops_below HO0.out HB0.out) HL0.out).mono ?_
  rintro e w2 ⟨rfl, rfl⟩
  go_wp2_with fail
  refine (played_any a0 n0 c0 f0 _ (by omega) (tops_below HO0.out HB0.out)).mono ?_
  rintro e w2 ⟨g, F, rfl, hD, hF, hb⟩
  have HI0 : Hid (HI W w2 g (runM (newM 4) f0 n0)) := Lib.hid ⟨⟨F, hD, fun k hk => Nat.le_trans HB0.out.size (hF k hk)⟩, HB0.out.trans (hb.mono HB0.out.size)⟩
  have HBX := Lib.hid (HX0.out.below hb)
  have HN := Lib.hid (runM_near 4 f0 n0)
  clear hD hF hb HX0 HB0 k6
  generalize runM (newM 4) f0 n0 = m0 at *
  go_wp2_with fail
  obtain ⟨F, hD, _⟩ := HI0.out.dk
  refine (hD.waiting (by have := HN.out.row; omega)).mono ?_
  rintro e w3 ⟨⟨q, c, rfl, hO⟩, hb⟩
  have HI3 := Lib.hid (HI0.out.le hb)
  have HX3 := Lib.hid (HBX.out.below hb)
  have HR3 := Lib.hid (base0 hO)
  clear hD hO hb HI0 HBX
  have k3 := HX3.out.c3
  simp only at k3
  obtain ⟨F3, hD3, _⟩ := HI3.out.dk
  have HDN := Lib.hid hD3.down
  clear hD3
  by_cases hlo : torn < 0
  · have t1 : decide (torn < 0) = true := decide_eq_true hlo
    go_wp2_with fail
    refine (lives_any _).mono ?_
    rintro e w4 ⟨rfl, hb⟩
    have HB := Lib.hid (HI3.out.below.trans (hb.mono HI3.out.below.size))
    go_wp2_with fail
    go_ret
    exact ⟨rfl, HB.out⟩
  · have t1 : decide (torn < 0) = false := decide_eq_false hlo
    by_cases hhi : (m0.row.length : Int) ≤ torn
    · have t2 : decide ((m0.row.length : Int) ≤ torn) = true := decide_eq_true hhi
      go_wp2_with fail
      refine (lives_any _).mono ?_
      rintro e w4 ⟨rfl, hb⟩
      have HB := Lib.hid (HI3.out.below.trans (hb.mono HI3.out.below.size))
      go_wp2_with fail
      go_ret
      exact ⟨rfl, HB.out⟩
    · have t2 : decide ((m0.row.length : Int) ≤ torn) = false := decide_eq_false hhi
      have hdn : m0.down = true := by
        cases e : m0.down with
        | true => rfl
        | false => exact absurd ⟨by omega, by omega, e⟩ HX.out
      rw [hdn] at HDN
      go_wp2_with fail
      refine HDN.out.mono ?_
      rintro e w5 ⟨rfl, rfl⟩
      go_wp2_with fail
      refine (lives_any _).mono ?_
      rintro e w4 ⟨rfl, hb⟩
      have HB := Lib.hid (HI3.out.below.trans (hb.mono HI3.out.below.size))
      go_wp2_with fail
      go_ret
      exact ⟨rfl, HB.out⟩
end Go.Proofs.Ytdldjpgbifcljaa
