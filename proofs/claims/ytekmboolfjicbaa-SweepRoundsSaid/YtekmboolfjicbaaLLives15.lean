/- The chapter's example is true. -/
import Derived.Test.YtekmboolfjicbaaLLives14
import Derived.BigRegion
set_option maxRecDepth 20000
set_option linter.unusedSimpArgs false
set_option linter.unusedVariables false
namespace Go.Proofs.Ytekmboolfjicbaa
open Go.RowKit

theorem add_pair {w : World} {gh : Nat} {F : Nat → Prop} {m : Hm} (h : Hep w gh F m) (b : Nat) (x y : Int × Int) (hx : I64 x.1 ∧ I64 x.2) (hy : I64 y.1 ∧ I64 y.2) (hb : w.heap[b]? = some (.cells #[.int .i64 x.1, .int .i64 x.2, .int .i64 y.1, .int .i64 y.2] 36 (0, 0))) :
    Calls Try.prog 18 #[.pointer (some ⟨gh, 0, none⟩), .agg #[.int .i64 0, .slice (some ⟨b, 0, none⟩) 2 2, .slice none 0 0]] w fun e w' => e = .returned (.tuple #[valV (addV m ⟨0, [x, y], []⟩), .int .i64 (addE m ⟨0, [x, y], []⟩)]) ∧ WentH F gh (addM m ⟨0, [x, y], []⟩) w w' := by
  obtain ⟨vr, mb, S, hp, rfl⟩ := h
  have hv : Vls w (some ⟨b, 0, none⟩) 2 [x, y] := ⟨rfl, fun _ => ⟨b, 0, rfl, fun i hi => by
    have c0 := cell_of_row w b 0 _ _ _ hb
    have c1 := cell_of_row w b 1 _ _ _ hb
    have c2 := cell_of_row w b 2 _ _ _ hb
    have c3 := cell_of_row w b 3 _ _ _ hb
    rcases (show i = 0 ∨ i = 1 by omega) with rfl | rfl
    · exact ⟨c0, c1⟩
    · exact ⟨c2, c3⟩⟩⟩
  exact hp.add ⟨0, [x, y], []⟩ (some ⟨b, 0, none⟩) none 2 2 0 0 ⟨hv, Bys.zero _ _, by intro z hz; simp at hz; rcases hz with rfl | rfl <;> assumption, by decide, by decide⟩ (by decide) (by decide)
set_option maxHeartbeats 3200000 in
theorem lives14_any (w : World) : Calls Try.prog 6 #[] w fun e w' => e = .returned (.bool true) ∧ Below w.heap.size w w' := by
  have hn3 := new_any 9 (by decide) (by decide) w
  rw [show ((9 : Nat) : Int) = 9 from rfl] at hn3
  have HN := Lib.hid hn3
  clear hn3
  have i0 : I64 0 := ⟨by decide, by decide⟩
  have i8 : I64 8 := ⟨by decide, by decide⟩
  have HA1 : Hid (∀ (w1 : World) g F b, Hep w1 g F (newM 9) → w1.heap[b]? = some (.cells #[.int .i64 0, .int .i64 0, .int .i64 0, .int .i64 0] 36 (0, 0)) → Calls Try.prog 18 #[.pointer (some ⟨g, 0, none⟩), .agg #[.int .i64 0, .slice (some ⟨b, 0, none⟩) 2 2, .slice none 0 0]] w1 fun e w' => e = .returned (.tuple #[.agg #[.int .i64 8, .int .i64 0], .int .i64 0]) ∧ WentH F g m1 w1 w') := Lib.hid fun w1 g F b hh hb => by
    have h := add_pair hh b (0, 0) (0, 0) ⟨i0, i0⟩ ⟨i0, i0⟩ hb
    have e1 : addE (newM 9) ⟨0, [(0, 0), (0, 0)], []⟩ = 0 := by decide
    have e2 : addV (newM 9) ⟨0, [(0, 0), (0, 0)], []⟩ = (8, 0) := v1_is
    rw [e1, e2] at h
    exact h
  have HA2 : Hid (∀ (w1 : World) g F b, Hep w1 g F m1 → w1.heap[b]? = some (.cells #[.int .i64 0, .int .i64 0, .int .i64 8, .int .i64 0] 36 (0, 0)) → Calls Try.prog 18 #[.pointer (some ⟨g, 0, none⟩), .agg #[.int .i64 0, .slice (some ⟨b, 0, none⟩) 2 2, .slice none 0 0]] w1 fun e w' => e = .returned (.tuple #[.agg #[.int .i64 8, .int .i64 1], .int .i64 0]) ∧ WentH F g m2 w1 w') := Lib.hid fun w1 g F b hh hb => by
    have h := add_pair hh b (0, 0) (8, 0) ⟨i0, i0⟩ ⟨i8, i0⟩ hb
    have e1 : addE m1 ⟨0, [(0, 0), (8, 0)], []⟩ = 0 := o2_may
    have e2 : addV m1 ⟨0, [(0, 0), (8, 0)], []⟩ = (8, 1) := v2_is
    rw [e1, e2] at h
    exact h
  have HA3 : Hid (∀ (w1 : World) g F b, Hep w1 g F m2 → w1.heap[b]? = some (.cells #[.int .i64 0, .int .i64 0, .int .i64 0, .int .i64 0] 36 (0, 0)) → Calls Try.prog 18 #[.pointer (some ⟨g, 0, none⟩), .agg #[.int .i64 0, .slice (some ⟨b, 0, none⟩) 2 2, .slice none 0 0]] w1 fun e w' => e = .returned (.tuple #[.agg #[.int .i64 8, .int .i64 2], .int .i64 0]) ∧ WentH F g m3 w1 w') := Lib.hid fun w1 g F b hh hb => by
    have h := add_pair hh b (0, 0) (0, 0) ⟨i0, i0⟩ ⟨i0, i0⟩ hb
    have e1 : addE m2 ⟨0, [(0, 0), (0, 0)], []⟩ = 0 := o3_may
    have e2 : addV m2 ⟨0, [(0, 0), (0, 0)], []⟩ = (8, 2) := v3_is
    rw [e1, e2] at h
    exact h
  have HVL : ∀ (w1 : World) b, w1.heap[b]? = some (.cells #[.int .i64 8, .int .i64 1] 36 (0, 0)) → Vls w1 (some ⟨b, 0, none⟩) 1 [(8, 1)] := fun w1 b hb => ⟨rfl, fun _ => ⟨b, 0, rfl, fun i hi => by
    have : i = 0 := by omega
    subst this
    exact ⟨by rw [cell_of_row w1 b _ _ _ _ hb]; rfl, by rw [cell_of_row w1 b _ _ _ _ hb]; rfl⟩⟩⟩
  have hfit : FitV [((8 : Int), (1 : Int))] := by intro z hz; simp at hz; subst hz; exact ⟨i8, ⟨by decide, by decide⟩⟩
  have HLS : Hid (∀ (w1 : World) g F b, Hep w1 g F m3 → w1.heap[b]? = some (.cells #[.int .i64 8, .int .i64 1] 36 (0, 0)) → Calls Try.prog 8 #[.pointer (some ⟨g, 0, none⟩), .slice (some ⟨b, 0, none⟩) 1 1] w1 fun e w' => (∃ q c, e = .returned (.slice q 2 c)) ∧ Hep w' g F m3 ∧ Below w1.heap.size w1 w') := Lib.hid fun w1 g F b hh hb => by
    refine (list_any hh m3_here m3_sm m3_ft (some ⟨b, 0, none⟩) 1 1 [(8, 1)] (HVL w1 b hb) hfit (by decide)).mono ?_
    rintro e w' ⟨q, T, c, rfl, _, hnd, hT, _, h1, h2⟩
    rw [m3_two hnd hT]
    exact ⟨⟨q, c, rfl⟩, h1, h2⟩
  have HCL : Hid (∀ (w1 : World) g F b, Hep w1 g F m3 → w1.heap[b]? = some (.cells #[.int .i64 8, .int .i64 1] 36 (0, 0)) → Calls Try.prog 19 #[.pointer (some ⟨g, 0, none⟩), .slice (some ⟨b, 0, none⟩) 1 1] w1 fun e w' => e = .returned (.int .i64 1) ∧ ∃ m' F', Hep w' g F' m' ∧ liveN m'.L = 2 ∧ Chp F F w1 w') := Lib.hid fun w1 g F b hh hb => by
    refine (collect_any hh m3_here m3_sm m3_ft (some ⟨b, 0, none⟩) 1 1 [(8, 1)] (HVL w1 b hb) hfit (by decide)).mono ?_
    rintro e w' ⟨T, F', rfl, hnd, hT, h1, h2, h3⟩
    rw [m3_one hT]
    exact ⟨rfl, _, F', h1, m3_live hT, h3⟩
  have HLV : Hid (∀ (w1 : World) g F m, Hep w1 g F m → liveN m.L = 2 → Calls Try.prog 20 #[.pointer (some ⟨g, 0, none⟩)] w1 fun e w' => e = .returned (.int .i64 2) ∧ w' = w1) := Lib.hid fun w1 g F m hh hl => by
    have h := hh.live
    rw [hl] at h
    exact h
  clear HVL hfit i0 i8
  go_enter Try.func6, Try.ntmps6
  go_upto_region 2 with (go_at_call 17; with_reducible refine HN.out.mono ?_; rintro e w1 ⟨g, F, rfl, hh, hF, hg, hb1⟩)
  have HC1 := Lib.hid (HA1.out (w1.alloc (.cells #[.int .i64 0, .int .i64 0, .int .i64 0, .int .i64 0] 36)) g F w1.heap.size (hh.below (alloc_below _ _)) (heap_alloc_new w1 _))
  have HF1 := Lib.hid hF
  have HB1 := Lib.hid hb1
  clear hh hF hb1 hg HA1 HN
  go_wp2_with fail
  with_reducible refine HC1.out.mono ?_
  rintro e w2 ⟨rfl, F2, hh2, hch2⟩
  have HB2 : Hid (Below w.heap.size w w2) := Lib.hid (hch2.below (HB1.out.alloc HB1.out.size _) (by have := HB1.out.size; simp; omega) HF1.out)
  have HF2 : Hid (∀ k, F2 k → w.heap.size ≤ k) := Lib.hid (hch2.high (by have := HB1.out.size; simp; omega) HF1.out)
  have HH2 := Lib.hid hh2
  clear hh2 hch2 HC1 HB1 HF1
  go_upto_region 3 with fail
  have HX3 := Lib.hid (heap_alloc_new w2 (.cells #[.int .i64 8, .int .i64 0] 36))
  have HB3 : Hid (Below w.heap.size w (w2.alloc (.cells #[.int .i64 8, .int .i64 0] 36))) := Lib.hid (HB2.out.alloc HB2.out.size _)
  have HH3 := Lib.hid (HH2.out.below (alloc_below w2 (.cells #[.int .i64 8, .int .i64 0] 36)))
  generalize w2.alloc (.cells #[.int .i64 8, .int .i64 0] 36) = w3 at *
  have y0 := cell_of_row _ _ 0 _ _ _ HX3.out
  have y1 := cell_of_row _ _ 1 _ _ _ HX3.out
  simp at y0 y1
  have HC3 := Lib.hid (HA2.out (w3.alloc (.cells #[.int .i64 0, .int .i64 0, .int .i64 8, .int .i64 0] 36)) g F2 w3.heap.size (HH3.out.below (alloc_below _ _)) (heap_alloc_new w3 _))
  clear HH2 HB2 HX3 HA2
  go_wp2_with fail
  with_reducible refine HC3.out.mono ?_
  rintro e w4 ⟨rfl, F4, hh4, hch4⟩
  have HB4 : Hid (Below w.heap.size w w4) := Lib.hid (hch4.below (HB3.out.alloc HB3.out.size _) (by have := HB3.out.size; simp; omega) HF2.out)
  have HF4 : Hid (∀ k, F4 k → w.heap.size ≤ k) := Lib.hid (hch4.high (by have := HB3.out.size; simp; omega) HF2.out)
  have HH4 := Lib.hid hh4
  clear hh4 hch4 HC3 HB3 HF2 y0 y1 HH3
  go_upto_region 4 with fail
  have HX5 := Lib.hid (heap_alloc_new w4 (.cells #[.int .i64 8, .int .i64 1] 36))
  have HB5 : Hid (Below w.heap.size w (w4.alloc (.cells #[.int .i64 8, .int .i64 1] 36))) := Lib.hid (HB4.out.alloc HB4.out.size _)
  have HH5 := Lib.hid (HH4.out.below (alloc_below w4 (.cells #[.int .i64 8, .int .i64 1] 36)))
  have HN5 : Hid (¬ F4 w4.heap.size) := Lib.hid fun e => by have := HH4.out.lt _ e; omega
  generalize w4.alloc (.cells #[.int .i64 8, .int .i64 1] 36) = w5 at *
  have HC5 := Lib.hid (HA3.out (w5.alloc (.cells #[.int .i64 0, .int .i64 0, .int .i64 0, .int .i64 0] 36)) g F4 w5.heap.size (HH5.out.below (alloc_below _ _)) (heap_alloc_new w5 _))
  clear HH4 HB4 HA3
  go_wp2_with fail
  with_reducible refine HC5.out.mono ?_
  rintro e w6 ⟨rfl, F6, hh6, hch6⟩
  have HB6 : Hid (Below w.heap.size w w6) := Lib.hid (hch6.below (HB5.out.alloc HB5.out.size _) (by have := HB5.out.size; simp; omega) HF4.out)
  have HF6 : Hid (∀ k, F6 k → w.heap.size ≤ k) := Lib.hid (hch6.high (by have := HB5.out.size; simp; omega) HF4.out)
  have HH6 := Lib.hid hh6
  have HX6 : Hid (w6.heap[w4.heap.size]? = _) := Lib.hid ((hch6.block w4.heap.size (by have := lt_of_block HX5.out; simp; omega) HN5.out).trans ((heap_alloc_old w5 _ (lt_of_block HX5.out)).trans HX5.out))
  have y0 := cell_of_row _ _ 0 _ _ _ HX6.out
  have y1 := cell_of_row _ _ 1 _ _ _ HX6.out
  simp at y0 y1
  have HC7 := Lib.hid (HLS.out (w6.alloc (.cells #[.int .i64 8, .int .i64 1] 36)) g F6 w6.heap.size (HH6.out.below (alloc_below _ _)) (heap_alloc_new w6 _))
  clear hh6 hch6 HC5 HB5 HF4 HH5 HX5 HN5 HLS
  go_wp2_with fail
  with_reducible refine HC7.out.mono ?_
  rintro e w7 ⟨⟨q7, c7, rfl⟩, hh7, hb7⟩
  have HB7 : Hid (Below w.heap.size w w7) := Lib.hid ((HB6.out.alloc HB6.out.size _).trans (hb7.mono (by have := HB6.out.size; simp; omega)))
  have HX7 : Hid (w7.heap[w4.heap.size]? = _) := Lib.hid ((hb7.block w4.heap.size (by have := lt_of_block HX6.out; simp; omega)).trans ((heap_alloc_old w6 _ (lt_of_block HX6.out)).trans HX6.out))
  have z0 := cell_of_row _ _ 0 _ _ _ HX7.out
  have z1 := cell_of_row _ _ 1 _ _ _ HX7.out
  simp at z0 z1
  have HC8 := Lib.hid (HCL.out (w7.alloc (.cells #[.int .i64 8, .int .i64 1] 36)) g F6 w7.heap.size (hh7.below (alloc_below _ _)) (heap_alloc_new w7 _))
  clear hh7 hb7 HC7 HB6 HX6 HH6 y0 y1 HCL HX7
  go_wp2_with fail
  with_reducible refine HC8.out.mono ?_
  rintro e w8 ⟨rfl, m', F8, hh8, hl8, hch8⟩
  have HB8 : Hid (Below w.heap.size w w8) := Lib.hid (hch8.below (HB7.out.alloc HB7.out.size _) (by have := HB7.out.size; simp; omega) HF6.out)
  have HC9 := Lib.hid (HLV.out w8 g F8 m' hh8 hl8)
  clear hh8 hl8 hch8 HC8 HB7 HF6 z0 z1 HLV
  go_wp2_with (go_at_call 20; with_reducible refine HC9.out.mono ?_; rintro e w9 ⟨rfl, rfl⟩)
  go_ret
  exact ⟨rfl, HB8.out⟩
end Go.Proofs.Ytekmboolfjicbaa
