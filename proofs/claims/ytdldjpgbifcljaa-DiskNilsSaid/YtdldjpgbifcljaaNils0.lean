/- What DiskNils returns where it is not gone through: true. -/
import Derived.Test.YtdldjpgbifcljaaStepD
import Derived.Test.YtdldjpgbifcljaaCloneD
import Derived.Test.YtdldjpgbifcljaaKeeps0
import Derived.Test.YtdldjpgbifcljaaIn
namespace Go.Proofs.Ytdldjpgbifcljaa
open Go.RowKit

theorem nops_below {w w' : World} {p : Option Addr} {n : Nat} {f : Nat → Opv} (h : Ops w p n f) (hb : Below w.heap.size w w') : Ops w' p n f := fun hn => by
  obtain ⟨b, o, e, hc⟩ := h hn
  exact ⟨b, o, e, fun r hr => (hc r hr).below hb⟩
set_option maxRecDepth 100000 in
set_option maxHeartbeats 3200000 in
theorem nils_heavy (a0 : Option Addr) (n0 c0 : Nat) (f0 : Nat → Opv) (a1 : Option Addr) (n1 c1 : Nat) (f1 : Nat → Opv) (o : Opv) (W : World) (hn0 : n0 ≤ 9223372036854775807) (hO0 : Ops W a0 n0 f0) (hn1 : n1 ≤ 9223372036854775807) (hO1 : Ops W a1 n1 f1) (hh : ¬ (Light n0 f0 ∧ Light n1 f1 ∧ o.nk ≤ 100)) :
    Calls Try.prog 7 #[.slice a0 n0 c0, .slice a1 n1 c1, o.val] W fun e w' => e = .returned (.bool true) ∧ Below W.heap.size W w' := by
  have HO0 := Lib.hid hO0
  have HO1 := Lib.hid hO1
  have HH := Lib.hid hh
  clear hO0 hO1 hh
  obtain ⟨kind, at_, num, torn, long, y, p, nk, ck, keep⟩ := o
  change Calls _ _ #[_, _, .agg #[.int .i64 kind, .int .i64 at_, .int .i64 num, .int .i64 torn, .int .i64 long, .int .u8 (y : Int), .slice p nk ck]] _ _
  simp only at HH
  have HB0 : Hid (Below W.heap.size W (W.alloc (.cells #[.int .i64 kind, .int .i64 at_, .int .i64 num, .int .i64 torn, .int .i64 long, .int .u8 (y : Int), .slice p nk ck] 39))) := Lib.hid ((Below.refl _ _).alloc (Nat.le_refl _) _)
  go_enter Try.func7, Try.ntmps7
  by_cases h0 : Light n0 f0
  · go_wp2_with fail
    refine (light_yes a0 n0 c0 f0 _ (nops_below HO0.out HB0.out) h0).mono ?_
    rintro e w2 ⟨rfl, rfl⟩
    by_cases h1 : Light n1 f1
    · have hk : decide ((100 : Int) < (nk : Int)) = true := decide_eq_true (by have := HH.out; have : ¬ nk ≤ 100 := fun h => this ⟨h0, h1, h⟩; omega)
      go_wp2_with fail
      refine (light_yes a1 n1 c1 f1 _ (nops_below HO1.out HB0.out) h1).mono ?_
      rintro e w3 ⟨rfl, rfl⟩
      go_wp2_with fail
      refine (lives_any _).mono ?_
      rintro e w4 ⟨rfl, hb⟩
      have HB := Lib.hid (HB0.out.trans (hb.mono HB0.out.size))
      go_wp2_with fail
      go_ret
      exact ⟨rfl, HB.out⟩
    · go_wp2_with fail
      refine (light_no a1 n1 c1 f1 _ hn1 (nops_below HO1.out HB0.out) h1).mono ?_
      rintro e w3 ⟨rfl, rfl⟩
      go_wp2_with fail
      refine (lives_any _).mono ?_
      rintro e w4 ⟨rfl, hb⟩
      have HB := Lib.hid (HB0.out.trans (hb.mono HB0.out.size))
      go_wp2_with fail
      go_ret
      exact ⟨rfl, HB.out⟩
  · go_wp2_with fail
    refine (light_no a0 n0 c0 f0 _ hn0 (nops_below HO0.out HB0.out) h0).mono ?_
    rintro e w2 ⟨rfl, rfl⟩
    go_wp2_with fail
    refine (lives_any _).mono ?_
    rintro e w4 ⟨rfl, hb⟩
    have HB := Lib.hid (HB0.out.trans (hb.mono HB0.out.size))
    go_wp2_with fail
    go_ret
    exact ⟨rfl, HB.out⟩
/-- The law's clone and the document's disk amid their steps; the document's in a box. -/
structure PX (w wr : World) (g b : Nat) (md m : Dsk) : Prop where
  dk : ∃ F, Dk wr g F md ∧ ∀ k ∈ F, w.heap.size ≤ k
  x : ∃ q1 c1 q2 c2, Box5 wr b (.slice q1 m.out.length c1) (.slice q2 m.row.length c2) (.int .i64 m.fuse) (.bool m.down) (.int .i64 (m.done : Int)) ∧ Ref wr (.agg #[.slice q1 m.out.length c1, .slice q2 m.row.length c2, .int .i64 m.fuse, .bool m.down, .int .i64 (m.done : Int)]) m
  below : Below w.heap.size w wr
  high : w.heap.size ≤ b
theorem PX.next {w wr w' : World} {g b : Nat} {md2 m2 : Dsk} {F F' : List Nat} {y : Value} (hF : ∀ k ∈ F, w.heap.size ≤ k) (hT : Typed wr F) (hbel : Below w.heap.size w wr) (hb : w.heap.size ≤ b) {v0 v1 v2 v3 v4 : Value} (hx : Box5 wr b v0 v1 v2 v3 v4)
    (hD : Dk w' g F' md2) (hR : Ref w' y m2) (hc : Chg F F' wr w') : ∃ q1 c1 q2 c2, y = .agg #[.slice q1 m2.out.length c1, .slice q2 m2.row.length c2, .int .i64 m2.fuse, .bool m2.down, .int .i64 (m2.done : Int)] ∧ Box5 w' b v0 v1 v2 v3 v4 ∧
      PX w (((((w'.setCell ⟨b, 0, none⟩ (.slice q1 m2.out.length c1)).setCell ⟨b, 1, none⟩ (.slice q2 m2.row.length c2)).setCell ⟨b, 2, none⟩ (.int .i64 m2.fuse)).setCell ⟨b, 3, none⟩ (.bool m2.down)).setCell ⟨b, 4, none⟩ (.int .i64 (m2.done : Int))) g b md2 m2 := by
  obtain ⟨q1, c1, q2, c2, rfl⟩ := hR.form
  have hx' := hx.chg hc hT
  have hall := five_other w' b (.slice q1 m2.out.length c1) (.slice q2 m2.row.length c2) (.int .i64 m2.fuse) (.bool m2.down) (.int .i64 (m2.done : Int))
  exact ⟨q1, c1, q2, c2, rfl, hx', ⟨F', hD.apart hx' hall, hc.high hbel.size hF⟩, ⟨q1, c1, q2, c2, ((((hx'.set0 _).set1 _).set2 _).set3 _).set4 _, hR.apart hx' hall⟩, (((((hc.below hbel hbel.size hF).setCell hb _).setCell hb _).setCell hb _).setCell hb _).setCell hb _, hb⟩
end Go.Proofs.Ytdldjpgbifcljaa
