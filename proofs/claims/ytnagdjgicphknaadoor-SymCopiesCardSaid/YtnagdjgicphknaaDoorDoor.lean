/- What the rows of the tied laws share: a heap in which the listed tables lie. -/
import Derived.Test.YtnagdjgicphknaaDoorLaw
import Derived.Lay
import Derived.LaidOnce
import Derived.LaidHandle
import Derived.LaidMore
namespace Go.Proofs.YtnagdjgicphknaaDoor
open Go.ChangeShapes Go.WideShapes Go.ChangeAt Go.RowKit

def laid3 : List (String × DataW Unit) := [("math/bits.deBruijn32tab", Rows.laid_math_bits_deBruijn32tab), ("math/bits.deBruijn64tab", Rows.laid_math_bits_deBruijn64tab), ("internal/strconv.uint64pow10", Rows.laid_internal_strconv_uint64pow10)]
theorem gPow : Tryd.prog.globalNamed "internal/strconv.uint64pow10" = some 0 := by kernel_rfl
theorem tPow : (Tryd.prog.globals[0]?).map (·.type) = some 68 := by kernel_rfl
/-- The listed tables give the table of powers. -/
theorem of_laid {W : World} (h : laidMetH Tryd.prog laid3 W) : TabW W := by
  rw [MakeChecks.laidMetH_plain _ _ _ (by kernel_rfl)] at h
  obtain ⟨ps, ⟨g0, t0, cs0, f0, p0, q0, hg0, ht0, hv0, hd0, ⟨g1, t1, cs1, f1, p1, q1, hg1, ht1, hv1, hd1, ⟨g2, t2, cs2, f2, p2, q2, hg2, ht2, hv2, hd2, _, _⟩, _⟩, _⟩, _, _⟩ := h
  obtain rfl := Option.some.inj (gPow.symm.trans hg2)
  obtain rfl := Option.some.inj (tPow.symm.trans ht2)
  have e2 : cs2.toList = Lib.pow10Tab.map fun z => Value.int .u64 z := Lib.cells_of_tab (n := 20) (e := 59) Tryd.underlying68 Tryd.underlying59 (by kernel_rfl) (by kernel_rfl) (zs := Lib.pow10Tab) hd2
  unfold TabW Lib.TabIs
  rw [hv2, ← e2]
end Go.Proofs.YtnagdjgicphknaaDoor
