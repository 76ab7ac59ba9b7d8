/- The law RootStores returns true for any two roots and any number of pages. -/
import Derived.Test.YtnjlhallkgacjaaST
import Derived.Deep.CutBlock
namespace Go.Proofs.Ytnjlhallkgacjaa
open Go.ChangeShapes Go.WideShapes Go.ChangeAt Go.RowKit
section
variable (w : World)
set_option maxRecDepth 20000 in
set_option maxHeartbeats 2000000 in
theorem stores_far (a b : Rt) (p : Int) (hp : p < 1 ∨ 512 < p) : Calls Try.prog 7 #[a.val, b.val, .int .i64 p] w fun e w' => e = .returned (.bool true) ∧ Below w.heap.size w w' := by
  have HMA := Lib.hid (fun w => mine_any a w)
  have HMB := Lib.hid (fun w => mine_any b w)
  have HLN := Lib.hid (fun w => load_nil w)
  have HSN := Lib.hid (fun w => nil_store a w)
  have HT0 := Lib.hid (TB.new w a b)
  unfold Rt.val Rt.none_ at *
  go_enter Try.func7, Try.ntmps7
  go_upto_region 1 with fail
  generalize ((w.alloc (.cells #[.int .i64 a.ep, .int .i64 a.pg, .int .i64 a.dr, .int .i64 a.wd] 23)).alloc (.cells #[.int .i64 b.ep, .int .i64 b.pg, .int .i64 b.dr, .int .i64 b.wd] 23)) = w1 at *
  go_wp2_with fail
  refine (HLN.out _).mono ?_
  rintro e w2 ⟨rfl, hb⟩
  have HT2 := Lib.hid (HT0.out.more hb)
  clear hb HT0
  go_upto_region 2 with fail
  have HT3 := Lib.hid ((HT2.out.more (alloc_below w2 (.cells #[.int .i64 0, .int .i64 0, .int .i64 0, .int .i64 0] 29))).more (alloc_below (w2.alloc (.cells #[.int .i64 0, .int .i64 0, .int .i64 0, .int .i64 0] 29)) (.cells #[.int .i64 0, .int .i64 0, .int .i64 0, .int .i64 0] 29)))
  clear HT2
  generalize (w2.alloc (.cells #[.int .i64 0, .int .i64 0, .int .i64 0, .int .i64 0] 29)).alloc (.cells #[.int .i64 0, .int .i64 0, .int .i64 0, .int .i64 0] 29) = w3 at *
  have k30 := HT3.out.b3.c0
  have k31 := HT3.out.b3.c1
  have k32 := HT3.out.b3.c2
  have k33 := HT3.out.b3.c3
  rcases hp with hp | hp
  · go_wp2_with (first
  | (go_at_call 11; refine (HMA.out _).mono ?_; rintro e w4 ⟨rfl, hb⟩; have HT4 := Lib.hid (HT3.out.more hb); clear hb)
  | (go_at_call 22; refine (HSN.out _).mono ?_; rintro e w5 ⟨rfl, hb⟩; have HT5 := Lib.hid (HT4.out.more hb); clear hb)
  | (go_at_call 8; refine (lives_any _).mono ?_; rintro e w9 ⟨rfl, hb9⟩))
    go_ret
    exact ⟨rfl, Below.more HT5.out.below hb9 HT5.out.below.size⟩
  · have hp2 : decide (p < 1) = false := decide_eq_false (by omega)
    go_wp2_with (first
  | (go_at_call 11; refine (HMA.out _).mono ?_; rintro e w4 ⟨rfl, hb⟩; have HT4 := Lib.hid (HT3.out.more hb); clear hb)
  | (go_at_call 22; refine (HSN.out _).mono ?_; rintro e w5 ⟨rfl, hb⟩; have HT5 := Lib.hid (HT4.out.more hb); clear hb)
  | (go_at_call 8; refine (lives_any _).mono ?_; rintro e w9 ⟨rfl, hb9⟩))
    go_ret
    exact ⟨rfl, Below.more HT5.out.below hb9 HT5.out.below.size⟩
end
end Go.Proofs.Ytnjlhallkgacjaa
