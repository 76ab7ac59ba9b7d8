/- The chapter's example; is a set as a row of truths? -/
import Derived.Test.YtipiblaoogneaaaCnt
import Derived.Test.YtipiblaoogneaaaRef4
import Derived.Test.YtipiblaoogneaaaRef3
namespace Go.Proofs.Ytipiblaoogneaaa
open Go.RowKit

theorem Below.more {B : Nat} {w a b : World} (h : Below B w a) (k : Below a.heap.size a b) (hB : B ≤ a.heap.size) : Below B w b := h.trans (Below.mono k hB)
/-- The example's set. -/
def ex : Nat → Bool := putI 10 (putI 10 (putI 10 (fun _ => false) 1) 2) 9
theorem ex_row : rowF ex (need 10) = [6, 2] := by decide
theorem ex_cnt : cnt ex 10 = 3 := by decide
theorem ex_str : strB [6, 2] = (⟨#[6, 2]⟩ : ByteArray) := by decide
set_option maxHeartbeats 1600000 in
theorem lives_any (w : World) : Calls Try.prog 8 #[] w fun e w' => e = .returned (.bool true) ∧ Below w.heap.size w w' := by
  have HN := Lib.hid (new_yes 10 w (by omega))
  have HX : Hid (putI 10 (putI 10 (putI 10 (fun _ => false) 1) 2) 9 = ex) := Lib.hid rfl
  go_enter Try.func8, Try.ntmps8
  go_wp2_with (go_at_call 7; refine HN.out.mono ?_; rintro e w1 ⟨⟨g, b, rfl, h1, h2, hS⟩, hb⟩)
  refine (put_any hS 1).mono ?_
  rintro e w2 ⟨rfl, hS2, ho2⟩
  have hb2 := ho2.below hb hb.size h2
  go_wp2_with fail
  refine (put_any hS2 2).mono ?_
  rintro e w3 ⟨rfl, hS3, ho3⟩
  have hb3 := ho3.below hb2 hb2.size h2
  go_wp2_with fail
  refine (put_any hS3 9).mono ?_
  rintro e w4 ⟨rfl, hS4, ho4⟩
  have hb4 := ho4.below hb3 hb3.size h2
  rw [HX.out] at hS4
  have HS4 := Lib.hid hS4
  have HB4 := Lib.hid hb4
  clear hS hS2 hS3 hS4 ho2 ho3 ho4 hb hb2 hb3 hb4
  have HB := Lib.hid (bytes_any HS4.out)
  rw [ex_row] at HB
  go_wp2_with (go_at_call 17; refine HB.out.mono ?_; rintro e w5 ⟨⟨p, c, rfl, hY⟩, hb5⟩; have hcv := hY.conv c; rw [ex_str] at hcv; have HC := Lib.hid (count_any (HS4.out.below hb5)); rw [ex_cnt] at HC)
  refine HC.out.mono ?_
  rintro e w6 ⟨rfl, hb6⟩
  have HB6 := Lib.hid (Below.more (Below.more HB4.out hb5 HB4.out.size) hb6 (Nat.le_trans HB4.out.size hb5.size))
  go_wp2_with fail
  go_ret
  exact ⟨rfl, HB6.out⟩
end Go.Proofs.Ytipiblaoogneaaa
