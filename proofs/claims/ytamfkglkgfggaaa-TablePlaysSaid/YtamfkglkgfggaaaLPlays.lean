/- Whatever is told, dropped and asked: the walk of the law. -/
import Derived.Test.YtamfkglkgfggaaaLPlays0
import Derived.Sort.CutIn
import Derived.Sort.BigQuietIn
set_option linter.unusedSimpArgs false
namespace Go.Proofs.Ytamfkglkgfggaaa
open Go.ChangeShapes Go.WideShapes Go.ChangeAt Go.RowKit Go.Shelf
attribute [local go_sem] Oper.semAt_some

theorem region_inF {F : Fence} {n : Nat} {id : Nat} {Q : Exit → Act → World → Prop} {a : Act} {w : World} {l : List Oper} (W : World) (hro : F.round = none) (hm : Try.prog.follows .mixedOrders = true) (hB : Region.lexB .any l.toArray = true) (hw : Below W.heap.size W w)
    (h : wpQuietIn F n Try.prog l.toArray (fun w' => ∃ s : In W, w' = s.1) (fun a' => ∀ w', (∃ s : In W, w' = s.1) → Q .normal a' w') l a) : (Code.region id l.toArray true).wpIn F n Try.prog Q a w :=
  wpIn_region_quiet (C := fun w' => ∃ s : In W, w' = s.1) hro hm hB ⟨⟨_, hw.drew⟩, rfl⟩ (by simpa using h)
set_option maxRecDepth 100000 in
set_option maxHeartbeats 2400000 in
theorem plays_walk (p1 : Option Addr) (n1 c1 : Nat) (f1 : Nat → Op3) (w : World) (hn1 : n1 ≤ 9223372036854775807) (hO1 : OpsIn w p1 n1 f1) :
    Calls Try.prog 3 #[.slice p1 n1 c1] w fun e w' => e = .returned (.bool true) ∧ Below w.heap.size w w' := by
  obtain ⟨hz, -⟩ := zero_of_info (P := Try.prog) info25
  have KI : Hid (∀ F, (Try.prog.info? 25).map (·.size) = some (rowA F 512).size) := Lib.hid fun F => by rw [size25, rowA_size]
  have HZS : Hid ((rowA (fun _ => 0) 512).size = 512) := Lib.hid (rowA_size _ _)
  have HM1 := Lib.hid (made_any p1 n1 c1 f1 w hn1 hO1)
  have q30 : ∀ (w : World) (caps : Array Value), (binOp .eql 30 (.func (.func 32) #[] caps) .nilFunc).run Try.prog w = .ok (.bool false) w := fun w caps => eql_nil30 w 32 caps
  clear hn1 hO1
  generalize fsF f1 (min n1 40) = f at *
  generalize rowA (fun _ => 0) 512 = Z at *
  refine (callsIn_wide (n := 5)).1 ?_
  refine callsIn_of_wp_marks Try.func3 rfl trivial ?_ rfl
  simp only [Try.ntmps3, List.size_toArray, List.length_cons, List.length_nil, Nat.reduceAdd, Nat.reduceSub, Array.replicate_succ, Array.replicate_zero, List.push_toArray, List.append_toArray, List.nil_append, List.cons_append]
  gi_upto_region 2 with (first
    | (refine ⟨trivial, ?_⟩; gi_at_call 7; refine (callsIn_wide.2 HM1.out).mono ?_; rintro e w1 ⟨rfl, hT1, hb1⟩)
    | (refine wpListIn_store_row rfl 25 (.tmp 4) (.tmp 16) rfl _ (rowA f 512) rfl rfl 25 Z (heap_alloc_new _ _) (KI.out _) (by rw [rowA_size]; exact HZS.out) (rowA_one _ _) ?_))
  have HT2 : Hid (Tab ((w1.alloc (.cells Z 25)).setRow w1.heap.size (rowA f 512)) (w.heap.size + 1) f) := Lib.hid (by
    rw [World.setRow_alloc_new]; exact hT1.below ((Below.refl _ _).alloc (Nat.le_refl _) _))
  have HX2 : Hid (IsT ((w1.alloc (.cells Z 25)).setRow w1.heap.size (rowA f 512)) w1.heap.size 25 f 512) := Lib.hid (by
    rw [World.setRow_alloc_new]; exact heap_alloc_new w1 _)
  have HB2 : Hid (Below w.heap.size w ((w1.alloc (.cells Z 25)).setRow w1.heap.size (rowA f 512))) := Lib.hid (by
    rw [World.setRow_alloc_new]; exact hb1.trans ((Below.refl w.heap.size w1).alloc hb1.size _))
  clear hT1 hb1 HM1
  generalize World.setRow _ _ _ = w2 at *
  generalize w.heap.size + 1 = g at *
  generalize w1.heap.size = gx at *
  gi_upto_region 4 with (first
    | (refine wpListIn_load_rowG (by kernel_rfl) 25 (.tmp 4) rfl gx rfl 25 (rowA f 512) (0, 0) _ HX2.out Try.underlying25 rfl (KI.out _) ?_)
    | (refine ⟨fun _ h => (by cases h; trivial), ?_⟩; gi_at_call 8; refine (callsIn_wide.2 (same_tab HT2.out)).mono ?_; rintro e w3 ⟨rfl, hb3⟩)
    | (refine ⟨trivial, ?_⟩; gi_at_call 8; refine (callsIn_wide.2 (same_tab HT2.out)).mono ?_; rintro e w3 ⟨rfl, hb3⟩))
  have HT3 := Lib.hid (HT2.out.below hb3)
  have HX3 := Lib.hid (HX2.out.below hb3)
  have HB3 := Lib.hid (HB2.out.trans (hb3.mono HB2.out.size))
  clear hb3 HT2 HX2 HB2
  gi_upto_region 6 with fail
  have HW4 : Hid (Tab (((w3.alloc (.cells #[.int .i64 (-1)] 3)).alloc (.cells #[.int .i64 0] 3)).alloc (.cells #[.bool true] 4)) g f ∧ IsT (((w3.alloc (.cells #[.int .i64 (-1)] 3)).alloc (.cells #[.int .i64 0] 3)).alloc (.cells #[.bool true] 4)) gx 25 f 512 ∧
      Below w.heap.size w (((w3.alloc (.cells #[.int .i64 (-1)] 3)).alloc (.cells #[.int .i64 0] 3)).alloc (.cells #[.bool true] 4)) ∧ Bx3 w3.heap.size f [] (((w3.alloc (.cells #[.int .i64 (-1)] 3)).alloc (.cells #[.int .i64 0] 3)).alloc (.cells #[.bool true] 4)) ∧
      (((w3.alloc (.cells #[.int .i64 (-1)] 3)).alloc (.cells #[.int .i64 0] 3)).alloc (.cells #[.bool true] 4)).heap.size = w3.heap.size + 3) := Lib.hid (by
    have a1 := (Below.refl w3.heap.size w3).alloc (Nat.le_refl _) (.cells #[.int .i64 (-1)] 3)
    have a2 := (Below.refl (w3.alloc (.cells #[.int .i64 (-1)] 3)).heap.size (w3.alloc (.cells #[.int .i64 (-1)] 3))).alloc (Nat.le_refl _) (.cells #[.int .i64 0] 3)
    have a3 := (Below.refl ((w3.alloc (.cells #[.int .i64 (-1)] 3)).alloc (.cells #[.int .i64 0] 3)).heap.size ((w3.alloc (.cells #[.int .i64 (-1)] 3)).alloc (.cells #[.int .i64 0] 3))).alloc (Nat.le_refl _) (.cells #[.bool true] 4)
    have s1 : (w3.alloc (.cells #[.int .i64 (-1)] 3)).heap.size = w3.heap.size + 1 := by simp
    have s2 : ((w3.alloc (.cells #[.int .i64 (-1)] 3)).alloc (.cells #[.int .i64 0] 3)).heap.size = w3.heap.size + 2 := by simp
    have b := (a1.trans (a2.mono (by omega))).trans (a3.mono (by omega))
    have c1 := heap_alloc_new w3 (.cells #[.int .i64 (-1)] 3)
    have c2 := heap_alloc_new (w3.alloc (.cells #[.int .i64 (-1)] 3)) (.cells #[.int .i64 0] 3)
    have c3 := heap_alloc_new ((w3.alloc (.cells #[.int .i64 (-1)] 3)).alloc (.cells #[.int .i64 0] 3)) (.cells #[.bool true] 4)
    rw [s1] at c2
    rw [s2] at c3
    exact ⟨HT3.out.below b, HX3.out.below b, HB3.out.trans (b.mono HB3.out.size), ⟨(a3.block w3.heap.size (by omega)).trans ((a2.block w3.heap.size (by omega)).trans c1), (a3.block (w3.heap.size + 1) (by omega)).trans c2, c3⟩, by simp⟩)
  have HGL : Hid (g < w3.heap.size ∧ gx < w3.heap.size ∧ w.heap.size ≤ w3.heap.size) := Lib.hid ⟨HT3.out.lt, HX3.out.lt, HB3.out.size⟩
  clear HT3 HX3 HB3
  generalize w3.heap.size = L at *
  generalize World.alloc (World.alloc (World.alloc _ _) _) _ = w4 at *
  have HAll := Lib.hid (all_any HW4.out.1)
  gi_wp2_with (refine ⟨trivial, ?_⟩; gi_at_call 9; refine (callsIn_wide.2 HAll.out).mono ?_; rintro e w5 ⟨⟨Bs, g', rfl, hTo⟩, hb5⟩)
  obtain ⟨t1, t2, t3, t4, t5, t6⟩ := hTo
  have hgt := t6.lt
  have hs4 := HW4.out.2.2.2.2
  have h5 := hb5.size
  have HBX : Hid (Bx3 L f [] w5) := Lib.hid (by
    have b := HW4.out.2.2.2.1
    exact ⟨(hb5.block L (by omega)).trans b.b1, (hb5.block (L + 1) (by omega)).trans b.b2, (hb5.block (L + 2) (by omega)).trans b.b3⟩)
  have HT5 := Lib.hid (HW4.out.1.below hb5)
  have HX5 := Lib.hid (HW4.out.2.1.below hb5)
  have HB5 := Lib.hid (HW4.out.2.2.1.trans (hb5.mono HW4.out.2.2.1.size))
  have HSZ : Hid (L + 3 ≤ w5.heap.size ∧ g < L ∧ gx < L ∧ w.heap.size ≤ L) := Lib.hid ⟨by omega, HGL.out.1, HGL.out.2.1, HGL.out.2.2⟩
  have n1 : Bs ≠ L ∧ Bs ≠ L + 1 ∧ Bs ≠ L + 2 := by omega
  have n2 : g' ≠ L ∧ g' ≠ L + 1 ∧ g' ≠ L + 2 := by omega
  have HN := Lib.hid (And.intro n1 n2)
  have HM := Lib.hid (sF_mems f 512 (Nat.le_refl _))
  have HFN : Hid (((mems (told f) 512).length : Int) = (cnt (told f) 512 : Int)) := Lib.hid (by rw [mems_cnt])
  clear t1 t2 t3 hs4 h5 n1 n2 hb5 HW4 HGL HAll
  refine wpIn_rangeFunc_ownG rfl (by omega) (gf := 32) (lb := #[.pointer (some ⟨Bs, 0, none⟩)]) rfl trivial (enters_of Try.func32 (by kernel_rfl) rfl)
    (all_stops 4 (by omega) Bs g' f w5 t4 t5 t6) Two.trans (Two.put t4 hgt) (Below.refl _ _) (fun _ => rfl)
    (fun pre W => Bx3 L f pre W ∧ But3 w5.heap.size L w5 W)
    (fun _ _ _ => False)
    (OwnFrom.and (Own.from (Bx3.own L f) _) (ownFrom_but3 (Nat.le_refl _) (Nat.le_refl _)))
    (fun c => ownFrom_pure _ _)
    ⟨HBX.out, But3.refl _ _ _⟩
    (fun x => { tmps := #[Value.slice p1 n1 c1, undef, Value.bool false, Value.pointer (some { block := g, off := 0 }), Value.pointer (some { block := gx, off := 0 }), Value.bool true, Value.pointer (some { block := L, off := 0 }), Value.pointer (some { block := L + 1, off := 0 }), Value.pointer (some { block := L + 1 + 1, off := 0 }), Value.func (Fn.func 32) #[] #[Value.pointer (some { block := Bs, off := 0 })], .int .i64 (x : Int), .int .i64 ((f x : Nat) : Int), Value.tuple #[Value.pointer (some { block := g, off := 0 }), Value.agg (rowA f 512), Value.bool true], Value.slice p1 n1 c1, Value.tuple #[Value.pointer (some { block := g, off := 0 }), Value.agg (rowA f 512), Value.bool true], Value.pointer (some { block := g, off := 0 }), Value.agg (rowA f 512), Value.bool true, Value.bool true, Value.bool false, Value.bool false, Value.pointer (some { block := g, off := 0 }), Value.agg (rowA f 512), Value.bool true, Value.bool false, Value.bool false, Value.pointer (some { block := g, off := 0 }), Value.func (Fn.func 32) #[] #[Value.pointer (some { block := Bs, off := 0 })], Value.func (Fn.func 32) #[] #[Value.pointer (some { block := Bs, off := 0 })], Value.bool false, Value.func (Fn.func 32) #[] #[Value.pointer (some { block := Bs, off := 0 })], .int .i64 (x : Int), .int .i64 ((f x : Nat) : Int), undef, undef, undef, undef, undef, undef, undef, undef, undef, undef, undef, undef, undef, undef, undef, undef, undef, undef, undef, undef, undef, undef, undef, undef, undef, undef, undef, undef, undef, undef, undef, undef, undef, undef], defers := [] }) ?assign ?body ?done ?stop
  case assign =>
    intro l x W K hK
    unfold tell
    gi_wp2
    first
      | exact hK
      | (simp; exact hK)
  case body =>
    rintro l pre x W ⟨hbx, hbut⟩ hlen
    have HBT := Lib.hid hbut
    have HBXX := Lib.hid hbx
    have c1 := hbx.b1.cell
    have c2 := hbx.b2.cell
    have c3 := hbx.b3.cell
    have f1 := free_of_one hbx.b1
    have f2 := free_of_one hbx.b2
    have f3 := free_of_one hbx.b3
    have hxr : IsT W gx 25 f 512 := HX5.out.same (hbut.block gx (by have := HSZ.out; omega) (by have := HSZ.out; omega) (by have := HSZ.out; omega) (by have := HSZ.out; omega))
    have HXR := Lib.hid hxr
    have hln : (pre.length : Int) ≤ 513 := by omega
    have hln0 : (0 : Int) ≤ (pre.length : Int) := by omega
    have HSN := Lib.hid (sF_snoc f pre x)
    have HLN : Hid (((pre ++ [x]).length : Int) = (pre.length : Int) + 1) := Lib.hid (by rw [List.length_append]; simp)
    clear hbx hbut hxr hlen t4 t5 t6 hgt
    have HNX : ∀ b, b = (sF f (pre ++ [x])).1 → Bx3 L f (pre ++ [x]) (((W.setCell ⟨L + 2, 0, none⟩ (.bool b)).setCell ⟨L, 0, none⟩ (.int .i64 (x : Int))).setCell ⟨L + 1, 0, none⟩ (.int .i64 ((pre.length : Int) + 1))) := fun b hb => by
      have h1 := ((HBXX.out.b1.other (B' := L + 2) (by omega) (.bool b)).set (.int .i64 (x : Int))).other (B' := L + 1) (by omega) (.int .i64 ((pre.length : Int) + 1))
      have h2 := ((HBXX.out.b2.other (B' := L + 2) (by omega) (.bool b)).other (B' := L) (by omega) (.int .i64 (x : Int))).set (.int .i64 ((pre.length : Int) + 1))
      have h3 := ((HBXX.out.b3.set (.bool b)).other (B' := L) (by omega) (.int .i64 (x : Int))).other (B' := L + 1) (by omega) (.int .i64 ((pre.length : Int) + 1))
      exact ⟨by rw [HSN.out]; exact h1, by rw [HLN.out]; exact h2, by rw [← hb]; exact h3⟩
    have HNX := Lib.hid HNX
    have HBN : Hid (∀ b, But3 w5.heap.size L w5 (((W.setCell ⟨L + 2, 0, none⟩ (.bool b)).setCell ⟨L, 0, none⟩ (.int .i64 (x : Int))).setCell ⟨L + 1, 0, none⟩ (.int .i64 ((pre.length : Int) + 1)))) := Lib.hid fun b =>
      ((HBT.out.trans (But3.setCell (.inr (.inr rfl)) _ _)).trans (But3.setCell (.inl rfl) _ _)).trans (But3.setCell (.inr (.inl rfl)) _ _)
    rw [HSN.out] at HNX
    dsimp only at HNX
    clear HBT HBXX HSN HLN HM HFN HBX
    generalize (sF f pre).1 = ok at *
    generalize (sF f pre).2 = la at *
    generalize pre.length = tp at *
    cases ok with
    | false =>
      gi_wp2
      exact ⟨((KeepsOthers.setCell _ _ _).trans ((KeepsOthers.setCell _ _ _).trans (KeepsOthers.setCell _ _ _))).from _, (Two.setCell HN.out.1.2.2 HN.out.2.2.2 _ _).trans ((Two.setCell HN.out.1.1 HN.out.2.1 _ _).trans (Two.setCell HN.out.1.2.1 HN.out.2.2.1 _ _)), HNX.out false rfl, HBN.out false⟩
    | true =>
      by_cases h2 : la < (x : Int)
      · have d2 : decide (la < (x : Int)) = true := decide_eq_true h2
        have d2' : decide ((x : Int) > la) = true := decide_eq_true h2
        by_cases h3 : x < 512
        · have d3 : decide ((x : Int) < 512) = true := decide_eq_true (by omega)
          have d4 : decide (x < 512) = true := decide_eq_true h3
          have hc := HXR.out.cell x h3
          have hxz : (x : Int) < 512 := by omega
          have hff : (f x == 0) = (((f x : Nat) : Int) == 0) := by rw [free_int]; rfl
          rw [hff] at HNX
          rw [d2, d4] at HNX
          clear h3 h2 hff
          generalize f x = v at *
          cases hv : ((v : Int) == 0) with
          | true =>
            have hv2 : ((v : Int) != 0) = false := by simp [bne, hv]
            rw [hv] at HNX
            gi_wp2
            exact ⟨((KeepsOthers.setCell _ _ _).trans ((KeepsOthers.setCell _ _ _).trans (KeepsOthers.setCell _ _ _))).from _, (Two.setCell HN.out.1.2.2 HN.out.2.2.2 _ _).trans ((Two.setCell HN.out.1.1 HN.out.2.1 _ _).trans (Two.setCell HN.out.1.2.1 HN.out.2.2.1 _ _)), HNX.out false rfl, HBN.out false⟩
          | false =>
            have hv2 : ((v : Int) != 0) = true := by simp [bne, hv]
            rw [hv] at HNX
            gi_wp2
            exact ⟨((KeepsOthers.setCell _ _ _).trans ((KeepsOthers.setCell _ _ _).trans (KeepsOthers.setCell _ _ _))).from _, (Two.setCell HN.out.1.2.2 HN.out.2.2.2 _ _).trans ((Two.setCell HN.out.1.1 HN.out.2.1 _ _).trans (Two.setCell HN.out.1.2.1 HN.out.2.2.1 _ _)), HNX.out true rfl, HBN.out true⟩
        · have d3 : decide ((x : Int) < 512) = false := decide_eq_false (by omega)
          have d4 : decide (x < 512) = false := decide_eq_false h3
          rw [d2, d4] at HNX
          clear h3 h2
          gi_wp2
          exact ⟨((KeepsOthers.setCell _ _ _).trans ((KeepsOthers.setCell _ _ _).trans (KeepsOthers.setCell _ _ _))).from _, (Two.setCell HN.out.1.2.2 HN.out.2.2.2 _ _).trans ((Two.setCell HN.out.1.1 HN.out.2.1 _ _).trans (Two.setCell HN.out.1.2.1 HN.out.2.2.1 _ _)), HNX.out false rfl, HBN.out false⟩
      · have d2 : decide (la < (x : Int)) = false := decide_eq_false h2
        have d2' : decide ((x : Int) > la) = false := decide_eq_false h2
        rw [d2] at HNX
        clear h2
        gi_wp2
        exact ⟨((KeepsOthers.setCell _ _ _).trans ((KeepsOthers.setCell _ _ _).trans (KeepsOthers.setCell _ _ _))).from _, (Two.setCell HN.out.1.2.2 HN.out.2.2.2 _ _).trans ((Two.setCell HN.out.1.1 HN.out.2.1 _ _).trans (Two.setCell HN.out.1.2.1 HN.out.2.2.1 _ _)), HNX.out false rfl, HBN.out false⟩
  case done =>
    rintro D ys W hD rfl ⟨hbx, hbut⟩ hK
    have h3 := hbx.b3
    rw [HM.out.1] at h3
    have h2 := hbx.b2
    rw [HFN.out] at h2
    have hTW : Tab W g f := HT5.out.same (hbut.block g (by have := HSZ.out; omega) (by have := HSZ.out; omega) (by have := HSZ.out; omega) (by have := HSZ.out; omega))
    have HTW := Lib.hid hTW
    have l2 : ∀ s : In W, s.1.cell? ⟨L + 1, 0, none⟩ = some (.int .i64 (cnt (told f) 512 : Int)) := fun s => (Boxed.cell (show Boxed s.1 (L + 1) 3 _ from (s.2.block _ (lt_of_block h2)).trans h2))
    have l3 : ∀ s : In W, s.1.cell? ⟨L + 2, 0, none⟩ = some (.bool true) := fun s => (Boxed.cell (show Boxed s.1 (L + 2) 4 _ from (s.2.block _ (lt_of_block h3)).trans h3))
    have HLen : Hid (∀ s : In W, Calls Try.prog 10 #[.pointer (some ⟨g, 0, none⟩)] s.1 fun e w' => e = .returned (.int .i64 (cnt (told f) 512 : Int)) ∧ Below s.1.heap.size s.1 w') := Lib.hid fun s => len_any (HTW.out.below s.2)
    have HLv : Hid (∀ s : In W, Calls Try.prog 11 #[] s.1 fun e w' => e = .returned (.bool true) ∧ Below s.1.heap.size s.1 w') := Lib.hid fun s => lives_any s.1
    have HBW : Hid (Below w.heap.size w W) := Lib.hid (hbut.below HB5.out HSZ.out.2.2.2 HB5.out.size)
    have HK := Lib.hid hK
    clear hbx hbut h2 h3 hTW hK t4 t5 t6 hgt
    generalize cnt (told f) 512 = N at *
    have hne := In.some W
    gi_upto_region 15 with fail
    refine region_inF W rfl (by kernel_rfl) (by kernel_rfl) (Below.refl _ _) ?_
    repeat (gi_big_quiet_step (fail))
    refine BigFrame.wpQuietIn_want (fun _ _ _ _ => trivial) (by kernel_rfl) (fun K hK => ?_)
    gi_big_quiet_op
    apply Exists.intro
    refine ⟨fun _ => ?_, ?_⟩
    · gi_at_call 10
      exact callsIn_wide.2 (Calls.quiet_in (HLen.out _))
    refine hK _ ?_
    clear hK K
    repeat (gi_big_quiet_step (fail))
    refine BigFrame.wpQuietIn_want (fun _ _ _ _ => trivial) (by kernel_rfl) (fun K hK => ?_)
    gi_big_quiet_op
    apply Exists.intro
    refine ⟨fun _ => ?_, ?_⟩
    · gi_at_call 11
      exact callsIn_wide.2 (Calls.quiet_in (HLv.out _))
    refine hK _ ?_
    clear hK K
    repeat (gi_big_quiet_step (fail))
    refine wpQuietIn_nil ?_
    intro w12 hw'
    have hb12 : Below W.heap.size W w12 := by
      obtain ⟨⟨wz, hbz⟩, hw''⟩ := hw'
      subst hw''
      exact hbz
    clear hw'
    gi_wp2
    have hKD := (hb12.block D (lt_of_block HK.out)).trans HK.out
    have hfin : Below w.heap.size w (w12.putObj D (.deferred none)) := (HBW.out.trans (hb12.mono HBW.out.size)).trans (belowK_b (w := w) (Nat.le_refl _) w12 D _ (.deferred none) (by have := HSZ.out; omega) hKD rfl rfl)
    refine ⟨by simp, .inl ⟨_, _, rfl, run_takeDeferred hKD, ?_⟩⟩
    refine ⟨.bool true, ?_, rfl, hfin⟩
    simp [results, Try.f3, go_sem]
  case stop =>
    rintro D cd pre W hD _ hf hK
    exact hf.elim
set_option maxRecDepth 100000 in
theorem plays_lifted (os : Os) (started : os.Started) (H : Type) (enc : TypeId × Value → H) :
    ReturnsInHanded {} Try.checked os 3 .any (fun w args => Rows.tablePlaysSpec.pre enc Try.prog Try.f3 [] false w args ∧ sizedMet enc Try.prog Try.f3 (OpenSpec.ofChange Rows.tablePlaysSpec) false w args)
      (Rows.tablePlaysSpec.post enc Try.prog Try.f3 false true false false) := by
  refine returnsInHanded_of_change_sized (C := Try.checked) own started (by kernel_rfl) Try.func3
    (ChangeSpec.witness6 (enc := enc) (C := Try.checked) false ⟨#[], #[.slice none 0 0], []⟩ 8 (by kernel_rfl) (by kernel_rfl) (by kernel_rfl) (by kernel_rfl)) ?_
  intro W base args ds gs before hval0 hW _ hsz0 _
  have hval : ∀ (j : Nat) t v, Try.f3.params[j]? = some t → args[j]? = some v → Value.okWide Try.prog W .any base t v := hval0
  have hlt := fun x hx => hW.lt (p := x) hx
  have hW' := hW
  obtain ⟨p, q, hA0, hV, rfl, hfz, hnd⟩ := hW
  have hA : DataW.TrodAll enc Try.prog W 0 (fun _ => true) true Try.f3.params.toList args.toList ds p := hA0
  have hsz : (DataW.weightsEach Try.prog (Try.f3.params.toList ++ Rows.tablePlaysSpec.plain.varTypes Try.prog) (ds ++ gs)).all (· ≤ reachBytes) = true := hsz0
  rw [Try.params3] at hA hval hsz
  obtain ⟨v0, vs0, d0, ds0, p0, q0, hargs, rfl, rfl, h0, r0⟩ := trodAll_cons hA
  obtain ⟨rfl, rfl, rfl⟩ := trodAll_nil r0
  obtain rfl : args = #[v0] := by cases args; simp_all
  obtain ⟨rfl, rfl⟩ := trodVars_none hV
  obtain ⟨a0, n0, c0, b0, rfl, hb0, hn0⟩ := open_ops (hval 0 22 v0 rfl rfl) h0
  clear hA0 hval0
  simp only [List.append_nil] at hW'
  refine (plays_walk a0 n0 c0 b0 W hn0 hb0).mono fun e W' ⟨he, hg⟩ => ?_
  subst he
  exact ⟨_, rfl, law_post hW' (fun _ _ _ => (trodAll_cons_mk (shut_bool Try.underlying4 _) trodAll_mk0)) (trodAll_cons_mk (Below.trod laidOut (by kernel_rfl) (by decide +kernel) h0 hg (fun x hx => hlt x (by simp [hx]))) trodAll_mk0) rfl (by simp) hg⟩

theorem plays_holds : Rows.TablePlaysSaid :=
  OpenClaim.holds_of_wide 3 Try.f3 rfl rfl rfl rfl rfl rfl rfl ⟨rfl, rfl, rfl, rfl, rfl⟩ rfl rfl rfl rfl rfl (by kernel_rfl) Try.func3 (by kernel_rfl)
    (of_decide_eq_true (by kernel_rfl)) (by unfold Func.isWrapper; first | (rw [if_pos (by decide +kernel)]; kernel_rfl) | (rw [if_neg (by decide +kernel)]; exact ⟨rfl, rfl⟩))
    (fun os started H enc _ => plays_lifted os started H enc)
#print axioms plays_holds

end Go.Proofs.Ytamfkglkgfggaaa
