/- The examples of the chapter: the law's own fixed answers. -/
import Derived.Test.YtggkemgbacddgaaRd
namespace Go.Proofs.Ytggkemgbacddgaa
open Go.RowKit

theorem str300 : strB ([] ++ numB (cnt 300)) = ⟨#[172, 2]⟩ := by
  rw [show cnt 300 = 300 from rfl, numB_hi (by decide), numB_lo (by decide)]; rfl
theorem strm1 : strB ([] ++ numB (zig (-1))) = ⟨#[1]⟩ := by
  rw [show zig (-1) = 1 from rfl, numB_lo (by decide)]; rfl
set_option maxHeartbeats 800000 in
theorem lives_any (w : World) : Calls Try.prog 6 #[] w fun e w' => e = .returned (.bool true) ∧ Below w.heap.size w w' := by
  go_enter Try.func6, Try.ntmps6
  go_wp2_with fail
  refine (count_any none 0 0 [] 300 _ (by omega) (Bys.zero _ _) ⟨Nat.le_refl _, fun _ => rfl⟩ (by omega) (by omega)).mono ?_
  rintro e w1 ⟨⟨v, rfl, hM⟩, hb1⟩
  obtain ⟨p1, c1, rfl, hB1⟩ := hM.bys (by rw [List.nil_append]; exact numB_dig _)
  have hc := hB1.conv c1
  rw [str300] at hc
  clear hB1 hM
  have HB1 := Lib.hid hb1
  clear hb1
  generalize ([] ++ numB (cnt 300)).length = n1 at *
  go_wp2_with fail
  clear hc
  refine (whole_any none 0 0 [] (-1) _ (by omega) (Bys.zero _ _) ⟨Nat.le_refl _, fun _ => rfl⟩ (by omega) (by omega)).mono ?_
  rintro e w2 ⟨⟨v, rfl, hM⟩, hb2⟩
  obtain ⟨p2, c2, rfl, hB2⟩ := hM.bys (by rw [List.nil_append]; exact numB_dig _)
  have hc := hB2.conv c2
  rw [strm1] at hc
  clear hB2 hM
  have HB2 := Lib.hid (HB1.out.trans (hb2.mono HB1.out.size))
  clear hb2
  generalize ([] ++ numB (zig (-1))).length = n2 at *
  go_wp2_with fail
  clear hc
  refine (read_any none 0 0 [] _ (by omega) (Bys.zero _ _)).mono ?_
  rintro e w3 ⟨⟨g, d, rfl, _, _, _, _, hR⟩, hb3⟩
  have HR := Lib.hid hR
  have HB3 := Lib.hid (HB2.out.trans (hb3.mono HB2.out.size))
  clear hR hb3
  go_wp2_with fail
  refine (end_all g d _ HR.out).mono ?_
  rintro e w4 ⟨rfl, rfl⟩
  go_wp2_with fail
  go_ret
  exact ⟨rfl, HB3.out⟩
end Go.Proofs.Ytggkemgbacddgaa
