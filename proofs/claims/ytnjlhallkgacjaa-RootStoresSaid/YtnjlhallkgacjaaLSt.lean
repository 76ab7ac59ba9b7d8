/- The law RootStores returns true for any two roots and pages. -/
import Derived.Test.YtnjlhallkgacjaaLSt0
import Derived.Deep.CutBlock
namespace Go.Proofs.Ytnjlhallkgacjaa
open Go.ChangeShapes Go.WideShapes Go.ChangeAt Go.RowKit
section
variable (w : World)
theorem putC_t : putC true = 0 := rfl
theorem putC_f : putC false = 1 := rfl
/-- The disk, and two roots that were loaded. -/
structure SX (w wr : World) (g : Nat) (m : Dsk) (a b : Rt) (q t : Nat) (x y : Rt) : Prop where
  st : ST w wr g m a b
  u1 : RtAt wr q t x
  u2 : RtAt wr (q + 1) t y
theorem SX.more {w wr w' : World} {g q t : Nat} {m : Dsk} {a b x y : Rt} (h : SX w wr g m a b q t x y) (k : Below wr.heap.size wr w') : SX w w' g m a b q t x y := ⟨h.st.more k, h.u1.below k, h.u2.below k⟩
theorem SX.make {w w13 : World} {g t : Nat} {m : Dsk} {a b x y : Rt} (h : ST w w13 g m a b) :
    SX w ((w13.alloc (.cells #[.int .i64 x.ep, .int .i64 x.pg, .int .i64 x.dr, .int .i64 x.wd] t)).alloc (.cells #[.int .i64 y.ep, .int .i64 y.pg, .int .i64 y.dr, .int .i64 y.wd] t)) g m a b w13.heap.size t x y :=
  ⟨(h.more (alloc_below _ _)).more (alloc_below _ _), heap_alloc2_old w13 _ _, heap_alloc2_new w13 _ _⟩
structure SY (w wr : World) (g : Nat) (m : Dsk) (a b : Rt) (q q2 : Nat) (x y : Rt) : Prop where
  st : ST w wr g m a b
  u1 : RtAt wr q 29 x
  u2 : RtAt wr (q + 1) 29 y
  v1 : RtAt wr q2 23 x
  v2 : RtAt wr (q2 + 1) 23 y
theorem SY.make {w w20 : World} {g q : Nat} {m : Dsk} {a b x y : Rt} (h : SX w w20 g m a b q 29 x y) :
    SY w ((w20.alloc (.cells #[.int .i64 x.ep, .int .i64 x.pg, .int .i64 x.dr, .int .i64 x.wd] 23)).alloc (.cells #[.int .i64 y.ep, .int .i64 y.pg, .int .i64 y.dr, .int .i64 y.wd] 23)) g m a b q w20.heap.size x y :=
  ⟨(h.st.more (alloc_below _ _)).more (alloc_below _ _), (h.u1.below (alloc_below _ _)).below (alloc_below _ _), (h.u2.below (alloc_below _ _)).below (alloc_below _ _), heap_alloc2_old w20 _ _, heap_alloc2_new w20 _ _⟩
theorem tb8 {w wr : World} {a b : Rt} (h : TB w wr a b) : wr.cell? ⟨w.heap.size, 0, none⟩ = some (.int .i64 a.ep) ∧ wr.cell? ⟨w.heap.size, 1, none⟩ = some (.int .i64 a.pg) ∧ wr.cell? ⟨w.heap.size, 2, none⟩ = some (.int .i64 a.dr) ∧ wr.cell? ⟨w.heap.size, 3, none⟩ = some (.int .i64 a.wd) ∧ wr.cell? ⟨w.heap.size + 1, 0, none⟩ = some (.int .i64 b.ep) ∧ wr.cell? ⟨w.heap.size + 1, 1, none⟩ = some (.int .i64 b.pg) ∧ wr.cell? ⟨w.heap.size + 1, 2, none⟩ = some (.int .i64 b.dr) ∧ wr.cell? ⟨w.heap.size + 1, 3, none⟩ = some (.int .i64 b.wd) :=
  ⟨h.b3.c0, h.b3.c1, h.b3.c2, h.b3.c3, h.b4.c0, h.b4.c1, h.b4.c2, h.b4.c3⟩
set_option maxRecDepth 20000 in
set_option maxHeartbeats 4000000 in
theorem stores_near (a b : Rt) (pages : Nat) (h1 : 1 ≤ pages) (h2 : pages ≤ 512) : Calls Try.prog 7 #[a.val, b.val, .int .i64 (pages : Int)] w fun e w' => e = .returned (.bool true) ∧ Below w.heap.size w w' := by
  have HNW : Hid (∀ w, Calls Try.prog 23 #[.int .i64 (4 * (pages : Int))] w fun e w' => ∃ g F, e = .returned (.tuple #[.pointer (some ⟨g, 0, none⟩), .int .i64 0]) ∧ Dk w' g F (newM (4 * pages)) ∧ (∀ k ∈ F, w.heap.size ≤ k) ∧ Below w.heap.size w w') := Lib.hid (fun w => by
    have h := new_any (4 * pages) w (by omega) (by omega)
    rw [show ((4 * pages : Nat) : Int) = 4 * (pages : Int) by omega] at h
    exact h)
  have HMA := Lib.hid (fun w => mine_any a w)
  have HMB := Lib.hid (fun w => mine_any b w)
  have HLN := Lib.hid (fun w => load_nil w)
  have HSN := Lib.hid (fun w => nil_store a w)
  have HT0 := Lib.hid (TB.new w a b)
  unfold Rt.val Rt.none_ at *
  go_enter Try.func7, Try.ntmps7
  go_upto_region 1 with fail
  generalize ((w.alloc (.cells #[.int .i64 a.ep, .int .i64 a.pg, .int .i64 a.dr, .int .i64 a.wd] 23)).alloc (.cells #[.int .i64 b.ep, .int .i64 b.pg, .int .i64 b.dr, .int .i64 b.wd] 23)) = w1 at *
  go_wp2_with fail
  refine (HLN.out _).mono ?_
  rintro e w2 ⟨rfl, hb⟩
  have HT2 := Lib.hid (HT0.out.more hb)
  clear hb HT0
  go_upto_region 2 with fail
  have HT3 := Lib.hid ((HT2.out.more (alloc_below w2 (.cells #[.int .i64 0, .int .i64 0, .int .i64 0, .int .i64 0] 29))).more (alloc_below (w2.alloc (.cells #[.int .i64 0, .int .i64 0, .int .i64 0, .int .i64 0] 29)) (.cells #[.int .i64 0, .int .i64 0, .int .i64 0, .int .i64 0] 29)))
  clear HT2
  generalize (w2.alloc (.cells #[.int .i64 0, .int .i64 0, .int .i64 0, .int .i64 0] 29)).alloc (.cells #[.int .i64 0, .int .i64 0, .int .i64 0, .int .i64 0] 29) = w3 at *
  have k30 := HT3.out.b3.c0
  have k31 := HT3.out.b3.c1
  have k32 := HT3.out.b3.c2
  have k33 := HT3.out.b3.c3
  have hp1 : decide ((pages : Int) < 1) = false := decide_eq_false (by omega)
  have hp2 : decide ((512 : Int) < (pages : Int)) = false := decide_eq_false (by omega)
  go_upto_region 4 with (first
  | (go_at_call 11; refine (HMA.out _).mono ?_; rintro e w4 ⟨rfl, hb⟩; have HT4 := Lib.hid (HT3.out.more hb); clear hb)
  | (go_at_call 22; refine (HSN.out _).mono ?_; rintro e w5 ⟨rfl, hb⟩; have HT5 := Lib.hid (HT4.out.more hb); clear hb))
  clear HT3 HT4 k30 k31 k32 k33 HLN HSN
  go_wp2_with fail
  refine (HNW.out _).mono ?_
  rintro e w6 ⟨g, F, rfl, hD, hF, hb⟩
  have HS6 : Hid (ST w w6 g (newM (4 * pages)) a b) := Lib.hid ⟨HT5.out.more hb, F, hD, fun k hk => Nat.le_trans (HT5.out.below.size) (hF k hk)⟩
  have HG := Lib.hid (Gd.new (4 * pages))
  clear hD hF hb HT5 HNW
  go_upto_region 7 with fail
  have HS7 := HS6
  clear HS6
  refine wp_region_held_drew (S := (fun w' => w'.cell? ⟨w.heap.size, 0, none⟩ = some (.int .i64 a.ep) ∧ w'.cell? ⟨w.heap.size, 1, none⟩ = some (.int .i64 a.pg) ∧ w'.cell? ⟨w.heap.size, 2, none⟩ = some (.int .i64 a.dr) ∧ w'.cell? ⟨w.heap.size, 3, none⟩ = some (.int .i64 a.wd) ∧ w'.cell? ⟨w.heap.size + 1, 0, none⟩ = some (.int .i64 b.ep) ∧ w'.cell? ⟨w.heap.size + 1, 1, none⟩ = some (.int .i64 b.pg) ∧ w'.cell? ⟨w.heap.size + 1, 2, none⟩ = some (.int .i64 b.dr) ∧ w'.cell? ⟨w.heap.size + 1, 3, none⟩ = some (.int .i64 b.wd))) (by kernel_rfl) (tb8 HS7.out.drew.tb) (fun hHeld => ?_)
  refine wpAnyH_take (i := 0) (v := ?_) rfl (by kernel_rfl) (by kernel_rfl) (by kernel_rfl) (fun _ _ _ h => h) (Or.inl ⟨by rfl, ?_⟩) (by assumption) ?_
  rotate_left
  · intro w hSw
    try dsimp only at hSw
    go_simp
    all_goals (with_reducible rfl)
  try simp only [Act.put]
  try simp only [List.setIfInBounds_toArray]
  try simp only [List.set]
  refine wpAnyH_take (i := 1) (v := ?_) rfl (by kernel_rfl) (by kernel_rfl) (by kernel_rfl) (fun _ _ _ h => h) (Or.inl ⟨by rfl, ?_⟩) (by assumption) ?_
  rotate_left
  · intro w hSw
    try dsimp only at hSw
    go_simp
    all_goals (with_reducible rfl)
  try simp only [Act.put]
  try simp only [List.setIfInBounds_toArray]
  try simp only [List.set]
  refine wpAnyH_take (i := 4) (v := ?_) rfl (by kernel_rfl) (by kernel_rfl) (by kernel_rfl) (fun _ _ _ h => h) (Or.inl ⟨by rfl, ?_⟩) (by assumption) ?_
  rotate_left
  · intro w hSw
    try dsimp only at hSw
    go_simp
    all_goals (with_reducible rfl)
  try simp only [Act.put]
  try simp only [List.setIfInBounds_toArray]
  try simp only [List.set]
  refine wpAnyH_take (i := 5) (v := ?_) rfl (by kernel_rfl) (by kernel_rfl) (by kernel_rfl) (fun _ _ _ h => h) (Or.inl ⟨by rfl, ?_⟩) (by assumption) ?_
  rotate_left
  · intro w hSw
    try dsimp only at hSw
    go_simp
    all_goals (with_reducible rfl)
  try simp only [Act.put]
  try simp only [List.setIfInBounds_toArray]
  try simp only [List.set]
  refine wpAnyH_ready (rs := [2]) (by kernel_rfl) (by simp) ?_
  refine AllReadyH.cons rfl (fun K hK => ?_) AllReadyH.nil
  go_simp
  refine (HMA.out _).mono ?_
  rintro e w8 ⟨rfl, hb⟩
  have HS8 := Lib.hid ((HS7.out.drew).more hb)
  clear hb hHeld
  go_simp
  refine hK.out _ _ ?_ (fun hHeld => ?_)
  · exact tb8 HS8.out.tb
  clear hK K
  try simp only [Act.put]
  try simp only [List.setIfInBounds_toArray]
  try simp only [List.set]
  refine wpAnyH_ready (rs := [3]) (by kernel_rfl) (by simp) ?_
  refine AllReadyH.cons rfl (fun K hK => ?_) AllReadyH.nil
  go_simp
  refine (ST.store HS8.out HG.out a pages rfl (by omega)).mono ?_
  rintro e w9 ⟨rfl, m1, hs, hg1⟩
  have HS9 := Lib.hid hs
  have HG1 := Lib.hid hg1
  clear hs hg1 hHeld
  go_simp
  refine hK.out _ _ ?_ (fun hHeld => ?_)
  · exact tb8 HS9.out.tb
  clear hK K
  try simp only [Act.put]
  try simp only [List.setIfInBounds_toArray]
  try simp only [List.set]
  refine wpAnyH_ready (rs := [6]) (by kernel_rfl) (by simp) ?_
  refine AllReadyH.cons rfl (fun K hK => ?_) AllReadyH.nil
  go_simp
  refine (HMB.out _).mono ?_
  rintro e w10 ⟨rfl, hb⟩
  have HS10 := Lib.hid (HS9.out.more hb)
  clear hb hHeld
  go_simp
  refine hK.out _ _ ?_ (fun hHeld => ?_)
  · exact tb8 HS10.out.tb
  clear hK K
  try simp only [Act.put]
  try simp only [List.setIfInBounds_toArray]
  try simp only [List.set]
  refine wpAnyH_ready (rs := [7]) (by kernel_rfl) (by simp) ?_
  refine AllReadyH.cons rfl (fun K hK => ?_) AllReadyH.nil
  go_simp
  refine (ST.store HS10.out HG1.out b pages rfl (by omega)).mono ?_
  rintro e w11 ⟨rfl, m2, hs, hg1⟩
  have HS11 := Lib.hid hs
  have HG2 := Lib.hid hg1
  clear hs hg1 hHeld
  go_simp
  refine hK.out _ _ ?_ (fun hHeld => ?_)
  · exact tb8 HS11.out.tb
  clear hK K
  try simp only [Act.put]
  try simp only [List.setIfInBounds_toArray]
  try simp only [List.set]
  refine wpAnyH_ready (rs := [8]) (by kernel_rfl) (by simp) ?_
  refine AllReadyH.cons rfl (fun K hK => ?_) AllReadyH.nil
  go_simp
  refine hK.out _ _ ?_ (fun hHeld => ?_)
  · exact tb8 HS11.out.tb
  clear hK K
  try simp only [Act.put]
  try simp only [List.setIfInBounds_toArray]
  try simp only [List.set]
  refine wpAnyH_ready (rs := [9]) (by kernel_rfl) (by simp) ?_
  refine AllReadyH.cons rfl (fun K hK => ?_) AllReadyH.nil
  go_simp
  refine hK.out _ _ ?_ (fun hHeld => ?_)
  · exact tb8 HS11.out.tb
  clear hK K
  try simp only [Act.put]
  try simp only [List.setIfInBounds_toArray]
  try simp only [List.set]
  refine wpAnyH_done (by kernel_rfl) ?_ _
  clear HS7 HS8 HS9 HS10 HG HG1
  go_upto_region 8 with fail
  have HRA := Lib.hid (fun w => rmay_any a w)
  have HRB := Lib.hid (fun w => rmay_any b w)
  have HFA : Hid (fits a pages = (may a && decide (a.pg ≤ (pages : Int)))) := Lib.hid rfl
  have HFB : Hid (fits b pages = (may b && decide (b.pg ≤ (pages : Int)))) := Lib.hid rfl
  unfold Rt.val at HRA HRB
  go_cut [14, 15] (fun v14 v15 wx => v14 = .bool (fits a pages) ∧ v15 = .bool (fits b pages) ∧ Hid (ST w wx g m2 a b))
  case first =>
    as_aux_lemma =>
    obtain ⟨W, hW⟩ : ∃ W, w11 = W := ⟨_, rfl⟩
    subst hW
    have X1 := HS11.out.tb.b3
    have X2 := HS11.out.tb.b4
    have lX10 : ∀ s : In w11, s.1.cell? ⟨w.heap.size, 0, none⟩ = some (.int .i64 a.ep) := fun s => (X1.below s.2).c0
    have lX11 : ∀ s : In w11, s.1.cell? ⟨w.heap.size, 1, none⟩ = some (.int .i64 a.pg) := fun s => (X1.below s.2).c1
    have lX12 : ∀ s : In w11, s.1.cell? ⟨w.heap.size, 2, none⟩ = some (.int .i64 a.dr) := fun s => (X1.below s.2).c2
    have lX13 : ∀ s : In w11, s.1.cell? ⟨w.heap.size, 3, none⟩ = some (.int .i64 a.wd) := fun s => (X1.below s.2).c3
    have lX20 : ∀ s : In w11, s.1.cell? ⟨(w.heap.size + 1), 0, none⟩ = some (.int .i64 b.ep) := fun s => (X2.below s.2).c0
    have lX21 : ∀ s : In w11, s.1.cell? ⟨(w.heap.size + 1), 1, none⟩ = some (.int .i64 b.pg) := fun s => (X2.below s.2).c1
    have lX22 : ∀ s : In w11, s.1.cell? ⟨(w.heap.size + 1), 2, none⟩ = some (.int .i64 b.dr) := fun s => (X2.below s.2).c2
    have lX23 : ∀ s : In w11, s.1.cell? ⟨(w.heap.size + 1), 3, none⟩ = some (.int .i64 b.wd) := fun s => (X2.below s.2).c3
    clear X1 X2
    have hne := In.some w11
    cases hma : may a with
    | true =>
      rw [hma, Bool.true_and] at HFA
      rw [hma] at HRA
      cases hmb : may b with
      | true =>
        rw [hmb, Bool.true_and] at HFB
        rw [hmb] at HRB
        clear hma hmb
        refine region_in w11 (by kernel_rfl) (by kernel_rfl) (Below.refl _ _) ?_
        repeat (go_big_quiet_step (fail))
        go_big_quiet_step ((go_at_call 9; exact Calls.quiet_in (HRA.out _)))
        repeat (go_big_quiet_step (fail))
        go_big_quiet_step ((go_at_call 9; exact Calls.quiet_in (HRB.out _)))
        repeat (go_big_quiet_step (fail))
        refine wpQuiet_nil ?_
        intro w12 hw'
        have hb12 : Below w11.heap.size w11 w12 := by
          obtain ⟨⟨wz, hbz⟩, hw''⟩ := hw'
          subst hw''
          exact hbz
        clear hw'
        go_wp2_with fail
        go_meet
        exact ⟨by rw [HFA.out], by rw [HFB.out], Lib.hid (HS11.out.more hb12)⟩
      | false =>
        rw [hmb, Bool.false_and] at HFB
        rw [hmb] at HRB
        clear hma hmb
        refine region_in w11 (by kernel_rfl) (by kernel_rfl) (Below.refl _ _) ?_
        repeat (go_big_quiet_step (fail))
        go_big_quiet_step ((go_at_call 9; exact Calls.quiet_in (HRA.out _)))
        repeat (go_big_quiet_step (fail))
        go_big_quiet_step ((go_at_call 9; exact Calls.quiet_in (HRB.out _)))
        repeat (go_big_quiet_step (fail))
        refine wpQuiet_nil ?_
        intro w12 hw'
        have hb12 : Below w11.heap.size w11 w12 := by
          obtain ⟨⟨wz, hbz⟩, hw''⟩ := hw'
          subst hw''
          exact hbz
        clear hw'
        go_wp2_with fail
        go_meet
        exact ⟨by rw [HFA.out], by rw [HFB.out], Lib.hid (HS11.out.more hb12)⟩
    | false =>
      rw [hma, Bool.false_and] at HFA
      rw [hma] at HRA
      cases hmb : may b with
      | true =>
        rw [hmb, Bool.true_and] at HFB
        rw [hmb] at HRB
        clear hma hmb
        refine region_in w11 (by kernel_rfl) (by kernel_rfl) (Below.refl _ _) ?_
        repeat (go_big_quiet_step (fail))
        go_big_quiet_step ((go_at_call 9; exact Calls.quiet_in (HRA.out _)))
        repeat (go_big_quiet_step (fail))
        go_big_quiet_step ((go_at_call 9; exact Calls.quiet_in (HRB.out _)))
        repeat (go_big_quiet_step (fail))
        refine wpQuiet_nil ?_
        intro w12 hw'
        have hb12 : Below w11.heap.size w11 w12 := by
          obtain ⟨⟨wz, hbz⟩, hw''⟩ := hw'
          subst hw''
          exact hbz
        clear hw'
        go_wp2_with fail
        go_meet
        exact ⟨by rw [HFA.out], by rw [HFB.out], Lib.hid (HS11.out.more hb12)⟩
      | false =>
        rw [hmb, Bool.false_and] at HFB
        rw [hmb] at HRB
        clear hma hmb
        refine region_in w11 (by kernel_rfl) (by kernel_rfl) (Below.refl _ _) ?_
        repeat (go_big_quiet_step (fail))
        go_big_quiet_step ((go_at_call 9; exact Calls.quiet_in (HRA.out _)))
        repeat (go_big_quiet_step (fail))
        go_big_quiet_step ((go_at_call 9; exact Calls.quiet_in (HRB.out _)))
        repeat (go_big_quiet_step (fail))
        refine wpQuiet_nil ?_
        intro w12 hw'
        have hb12 : Below w11.heap.size w11 w12 := by
          obtain ⟨⟨wz, hbz⟩, hw''⟩ := hw'
          subst hw''
          exact hbz
        clear hw'
        go_wp2_with fail
        go_meet
        exact ⟨by rw [HFA.out], by rw [HFB.out], Lib.hid (HS11.out.more hb12)⟩
  case rest =>
  as_aux_lemma =>
  obtain ⟨hv1, hv2, hc⟩ := hcut
  subst hv1 hv2
  clear HS11 HRA HRB HFA HFB
  have HS := Lib.hid hc.out
  clear hc
  clear HMB hHeld
  have HC1 : Hid (fits a pages = true → Mays a ∧ a.pg ≤ (pages : Int)) := Lib.hid fits_mays
  have HC2 : Hid (fits b pages = true → Mays b ∧ b.pg ≤ (pages : Int)) := Lib.hid fits_mays
  have HLS : Hid (4 * pages < 16 → ldE m2 = 1) := Lib.hid (load_small HG2.out)
  have HLT : Hid (4 ≤ pages → ldE m2 = nwE (sOf (fits b pages) b (sOf (fits a pages) a zs128)) (tOf (fits b pages) b (tOf (fits a pages) a zs128)) ∧ ldA m2 = nwA (sOf (fits b pages) b (sOf (fits a pages) a zs128)) (tOf (fits b pages) b (tOf (fits a pages) a zs128)) ∧ ldB m2 = nwB (sOf (fits b pages) b (sOf (fits a pages) a zs128)) (tOf (fits b pages) b (tOf (fits a pages) a zs128))) := Lib.hid (load_two HG2.out rfl)
  have HGM : Hid (m2.out.length = 4 * pages ∧ m2.done ≤ 2 ∧ m2.row.length ≤ 2) := Lib.hid ⟨HG2.out.len, HG2.out.done, HG2.out.row⟩
  clear HG2
  obtain ⟨c1, hc1⟩ : ∃ c, fits a pages = c := ⟨_, rfl⟩
  obtain ⟨c2, hc2⟩ : ∃ c, fits b pages = c := ⟨_, rfl⟩
  rw [hc1] at HC1 HLT ⊢
  rw [hc2] at HC2 HLT ⊢
  clear hc1 hc2
  go_upto_region 9 with fail
  go_cut [110] (fun v wx => v = .bool false ∧ Hid (ST w wx g m2 a b))
  case first =>
    as_aux_lemma =>
    cases c1 with
    | true =>
      cases c2 with
      | true =>
        rw [putC_t]
        go_wp2_with fail
        go_meet
        exact ⟨rfl, HS⟩
      | false =>
        rw [putC_t, putC_f]
        go_wp2_with fail
        go_meet
        exact ⟨rfl, HS⟩
    | false =>
      cases c2 with
      | true =>
        rw [putC_t, putC_f]
        go_wp2_with fail
        go_meet
        exact ⟨rfl, HS⟩
      | false =>
        rw [putC_f]
        go_wp2_with fail
        go_meet
        exact ⟨rfl, HS⟩
  case rest =>
  as_aux_lemma =>
  obtain ⟨hv, hc⟩ := hcut
  subst hv
  clear HS
  have HS := Lib.hid hc.out
  clear hc
  go_wp2_with fail
  have HLD := Lib.hid (ST.load HS.out)
  unfold Rt.val at HLD
  refine HLD.out.mono ?_
  clear HLD
  rintro e w13 ⟨rfl, hs, _⟩
  have HS13 := Lib.hid hs
  clear hs HS
  go_upto_region 12 with fail
  have HX : Hid (SX w ((w13.alloc (.cells #[.int .i64 (ldA m2).ep, .int .i64 (ldA m2).pg, .int .i64 (ldA m2).dr, .int .i64 (ldA m2).wd] 29)).alloc (.cells #[.int .i64 (ldB m2).ep, .int .i64 (ldB m2).pg, .int .i64 (ldB m2).dr, .int .i64 (ldB m2).wd] 29)) g m2 a b w13.heap.size 29 (ldA m2) (ldB m2)) := Lib.hid (SX.make HS13.out)
  clear HS13
  generalize ldA m2 = x at *
  generalize ldB m2 = y at *
  generalize ldE m2 = E at *
  generalize ((w13.alloc (.cells #[.int .i64 x.ep, .int .i64 x.pg, .int .i64 x.dr, .int .i64 x.wd] 29)).alloc (.cells #[.int .i64 y.ep, .int .i64 y.pg, .int .i64 y.dr, .int .i64 y.wd] 29)) = w14 at *
  generalize w13.heap.size = q at *
  by_cases h4 : (pages : Int) < 4
  · have hE := HLS.out (by omega)
    subst hE
    go_wp2_with (go_at_call 8; refine (lives_any _).mono ?_; rintro e w9 ⟨rfl, hb9⟩)
    go_ret
    exact ⟨rfl, Below.more HX.out.st.tb.below hb9 HX.out.st.tb.below.size⟩
  · obtain ⟨hE, hA, hB⟩ := HLT.out (by omega)
    have hp4 : decide ((pages : Int) < 4) = false := decide_eq_false h4
    have HEQ := Lib.hid (And.intro hE (And.intro hA hB))
    have h4p : 4 ≤ pages := by omega
    clear hE hA hB HLS HLT h4
    go_upto_region 14 with fail
    clear hp4 hp1 hp2
    obtain ⟨Z, HZS⟩ : ∃ Z, Hid (strB zs128 = Z) := ⟨_, Lib.hid rfl⟩
    go_cut [19, 20] (fun v19 v20 wx => v19 = .string Z ∧ v20 = .string Z ∧ Hid (SX w wx g m2 a b q 29 x y))
    case first =>
      as_aux_lemma =>
      obtain ⟨i0, hi, hz0, hz1, hz2⟩ := info_parts Try.info5
      obtain ⟨C0, HC⟩ : ∃ C0, Hid (madeCells (Value.int IntKind.u8 0).cells 128 = C0) := ⟨_, Lib.hid rfl⟩
      have hmk : ∀ w : World, (Instr.makeSlice 45 (.int .i64 128) (.int .i64 128)).run Try.prog w = .ok (.slice (some ⟨w.heap.size, 0, none⟩) 128 128) (w.alloc (.cells C0 5)) := fun w => by
        have h := run_make (P := Try.prog) w 45 5 i0 _ Try.underlying45 hi hz0 .i64 .i64 128 128 (by omega) (by omega) (by rw [hz2]; decide) (by omega)
        rw [hz1, show Int.toNat 128 * 1 = 128 from rfl, HC.out] at h
        exact h
      have HCV : Hid (∀ (u : World) (g : Nat), u.heap[g]? = some (.cells C0 5 (0, 0)) → (convert 45 9 (.slice (some ⟨g, 0, none⟩) 128 128)).run Try.prog u = .ok (.string Z) u) := Lib.hid (fun u g h => by
        have hl : C0.toList = u8s (List.replicate 128 0) := by rw [← HC.out]; exact made_u8s 128
        have hr : Row5 u g 128 (List.replicate 128 0) := Row5.of_cur (by rw [h, ← hl, Array.toArray_toList]) (List.length_replicate ..) (by unfold maxLen; omega)
        have := (hr.bys (dig_zeros 128)).conv 128
        rw [show strB (List.replicate 128 0) = Z from HZS.out] at this
        exact this)
      have v1 := HCV.out (w14.drew.alloc (.cells C0 5)) w14.heap.size (heap_alloc_new w14.drew _)
      have v2 := HCV.out ((w14.drew.alloc (.cells C0 5)).alloc (.cells C0 5)) w14.heap.size (heap_alloc2_old w14.drew _ _)
      have v3 := HCV.out ((w14.drew.alloc (.cells C0 5)).alloc (.cells C0 5)) (w14.heap.size + 1) (heap_alloc2_new w14.drew _ _)
      have v4 := HCV.out (w14.alloc (.cells C0 5)).drew w14.heap.size (heap_alloc_new w14 _)
      have v5 := HCV.out ((w14.alloc (.cells C0 5)).alloc (.cells C0 5)).drew w14.heap.size (heap_alloc2_old w14 _ _)
      have v6 := HCV.out ((w14.alloc (.cells C0 5)).alloc (.cells C0 5)).drew (w14.heap.size + 1) (heap_alloc2_new w14 _ _)
      have HFIN : Hid (SX w ((w14.alloc (.cells C0 5)).alloc (.cells C0 5)).drew g m2 a b q 29 x y) := Lib.hid (((HX.out.more (alloc_below _ _)).more (alloc_below _ _)).more (Below.refl _ _).drew)
      clear hi hz0 hz1 hz2 HCV HX
      go_region_with (fail)
      all_goals
        go_wp2_with fail
        go_meet
        exact ⟨rfl, rfl, HFIN⟩
    case rest =>
    as_aux_lemma =>
    obtain ⟨hv1, hv2, hc⟩ := hcut
    subst hv1 hv2
    clear HX
    have HX := Lib.hid hc.out
    clear hc
    rw [← HZS.out]
    clear HZS
    go_upto_region 15 with fail
    go_cut [134] (fun v wx => v = .bool (c1 && decide (place a.ep = 0)) ∧ Hid (SX w wx g m2 a b q 29 x y))
    case first =>
      as_aux_lemma =>
      have k0 := HX.out.st.tb.b3.c0
      cases c1 with
      | true =>
        go_wp2_with (go_at_call 16; refine (rplace_any _ _).mono ?_; rintro e w7 ⟨rfl, rfl⟩)
        go_meet
        exact ⟨rfl, HX⟩
      | false =>
        go_wp2_with fail
        go_meet
        exact ⟨rfl, HX⟩
    case rest =>
    as_aux_lemma =>
    obtain ⟨hv1, hc⟩ := hcut
    subst hv1
    clear HX
    have HX := Lib.hid hc.out
    clear hc
    go_upto_if 134 with fail
    go_cut [19, 20] (fun v19 v20 wx => v19 = .string (strB (sOf c1 a zs128)) ∧ v20 = .string (strB (tOf c1 a zs128)) ∧ Hid (SX w wx g m2 a b q 29 x y))
    case first =>
      as_aux_lemma =>
      have HSE : Hid (sOf c1 a zs128 = if (c1 && decide (place a.ep = 0)) = true then block a else zs128) := Lib.hid rfl
      have HTE : Hid (tOf c1 a zs128 = if (c1 && decide (place a.ep = 0)) = true then zs128 else if c1 = true then block a else zs128) := Lib.hid rfl
      have k0 := HX.out.st.tb.b3.c0
      have k1 := HX.out.st.tb.b3.c1
      have k2 := HX.out.st.tb.b3.c2
      have k3 := HX.out.st.tb.b3.c3
      generalize decide (place a.ep = 0) = d at *
      cases c1 with
      | true =>
        have HBL := Lib.hid (fun w => block_any a w (HC1.out rfl).1)
        unfold Rt.val at HBL
        cases d with
        | true =>
          go_wp2_with (go_at_call 18; refine (HBL.out _).mono ?_; rintro e w17 ⟨rfl, hb⟩)
          go_meet
          exact ⟨by rw [HSE.out]; rfl, by rw [HTE.out]; rfl, Lib.hid (HX.out.more hb)⟩
        | false =>
          go_wp2_with (go_at_call 18; refine (HBL.out _).mono ?_; rintro e w17 ⟨rfl, hb⟩)
          go_meet
          exact ⟨by rw [HSE.out]; rfl, by rw [HTE.out]; rfl, Lib.hid (HX.out.more hb)⟩
      | false =>
        rw [Bool.false_and]
        go_wp2_with fail
        go_meet
        exact ⟨by rw [HSE.out]; rfl, by rw [HTE.out]; rfl, HX⟩
    case rest =>
    as_aux_lemma =>
    obtain ⟨hv1, hv2, hc⟩ := hcut
    subst hv1 hv2
    clear HX
    have HX := Lib.hid hc.out
    clear hc
    go_upto_region 19 with fail
    go_cut [146] (fun v wx => v = .bool (c2 && decide (place b.ep = 0)) ∧ Hid (SX w wx g m2 a b q 29 x y))
    case first =>
      as_aux_lemma =>
      have k0 := HX.out.st.tb.b4.c0
      cases c2 with
      | true =>
        go_wp2_with (go_at_call 16; refine (rplace_any _ _).mono ?_; rintro e w7 ⟨rfl, rfl⟩)
        go_meet
        exact ⟨rfl, HX⟩
      | false =>
        go_wp2_with fail
        go_meet
        exact ⟨rfl, HX⟩
    case rest =>
    as_aux_lemma =>
    obtain ⟨hv1, hc⟩ := hcut
    subst hv1
    clear HX
    have HX := Lib.hid hc.out
    clear hc
    go_upto_if 146 with fail
    go_cut [19, 20] (fun v19 v20 wx => v19 = .string (strB (sOf c2 b (sOf c1 a zs128))) ∧ v20 = .string (strB (tOf c2 b (tOf c1 a zs128))) ∧ Hid (SX w wx g m2 a b q 29 x y))
    case first =>
      as_aux_lemma =>
      have HSE : Hid (sOf c2 b (sOf c1 a zs128) = if (c2 && decide (place b.ep = 0)) = true then block b else (sOf c1 a zs128)) := Lib.hid rfl
      have HTE : Hid (tOf c2 b (tOf c1 a zs128) = if (c2 && decide (place b.ep = 0)) = true then (tOf c1 a zs128) else if c2 = true then block b else (tOf c1 a zs128)) := Lib.hid rfl
      have k0 := HX.out.st.tb.b4.c0
      have k1 := HX.out.st.tb.b4.c1
      have k2 := HX.out.st.tb.b4.c2
      have k3 := HX.out.st.tb.b4.c3
      generalize decide (place b.ep = 0) = d at *
      cases c2 with
      | true =>
        have HBL := Lib.hid (fun w => block_any b w (HC2.out rfl).1)
        unfold Rt.val at HBL
        cases d with
        | true =>
          go_wp2_with (go_at_call 18; refine (HBL.out _).mono ?_; rintro e w17 ⟨rfl, hb⟩)
          go_meet
          exact ⟨by rw [HSE.out]; rfl, by rw [HTE.out]; rfl, Lib.hid (HX.out.more hb)⟩
        | false =>
          go_wp2_with (go_at_call 18; refine (HBL.out _).mono ?_; rintro e w17 ⟨rfl, hb⟩)
          go_meet
          exact ⟨by rw [HSE.out]; rfl, by rw [HTE.out]; rfl, Lib.hid (HX.out.more hb)⟩
      | false =>
        rw [Bool.false_and]
        go_wp2_with fail
        go_meet
        exact ⟨by rw [HSE.out]; rfl, by rw [HTE.out]; rfl, HX⟩
    case rest =>
    as_aux_lemma =>
    obtain ⟨hv1, hv2, hc⟩ := hcut
    subst hv1 hv2
    clear HX
    have HX := Lib.hid hc.out
    clear hc
    have hgs := sOf_dig c2 b (sOf_dig c1 a zs_good)
    have hgt := tOf_dig c2 b (tOf_dig c1 a zs_good)
    have HRN := Lib.hid (fun w => rnewest_any _ _ w _ _ (IsS.mk_ _ hgs.2) (IsS.mk_ _ hgt.2) hgs.1 hgt.1)
    rw [← HEQ.out.1, ← HEQ.out.2.1, ← HEQ.out.2.2] at HRN
    clear hgs hgt HEQ
    obtain ⟨SS, hSS⟩ : ∃ SS, strB (sOf c2 b (sOf c1 a zs128)) = SS := ⟨_, rfl⟩
    obtain ⟨TT, hTT⟩ : ∃ TT, strB (tOf c2 b (tOf c1 a zs128)) = TT := ⟨_, rfl⟩
    rw [hSS, hTT] at HRN ⊢
    clear hSS hTT
    unfold Rt.val at HRN
    go_wp2_with fail
    refine (HRN.out _).mono ?_
    rintro e w20 ⟨rfl, hb⟩
    have HX20 := Lib.hid (HX.out.more hb)
    clear hb HX HRN
    go_upto_region 24 with fail
    have HU : Hid (SY w ((w20.alloc (.cells #[.int .i64 x.ep, .int .i64 x.pg, .int .i64 x.dr, .int .i64 x.wd] 23)).alloc (.cells #[.int .i64 y.ep, .int .i64 y.pg, .int .i64 y.dr, .int .i64 y.wd] 23)) g m2 a b q w20.heap.size x y) := Lib.hid (SY.make HX20.out)
    clear HX20
    generalize ((w20.alloc (.cells #[.int .i64 x.ep, .int .i64 x.pg, .int .i64 x.dr, .int .i64 x.wd] 23)).alloc (.cells #[.int .i64 y.ep, .int .i64 y.pg, .int .i64 y.dr, .int .i64 y.wd] 23)) = w21 at *
    generalize w20.heap.size = q2 at *
    have HTX := Lib.hid (fun w => theirs_any x w)
    have HTY := Lib.hid (fun w => theirs_any y w)
    unfold Rt.val at HTX HTY
    go_cut [173] (fun v wx => v = .bool false ∧ Hid (ST w wx g m2 a b))
    case first =>
      as_aux_lemma =>
      have X1 := HU.out.u1
      have X2 := HU.out.u2
      have X3 := HU.out.v1
      have X4 := HU.out.v2
      have lX10 : ∀ s : In w21, s.1.cell? ⟨q, 0, none⟩ = some (.int .i64 x.ep) := fun s => (X1.below s.2).c0
      have lX11 : ∀ s : In w21, s.1.cell? ⟨q, 1, none⟩ = some (.int .i64 x.pg) := fun s => (X1.below s.2).c1
      have lX12 : ∀ s : In w21, s.1.cell? ⟨q, 2, none⟩ = some (.int .i64 x.dr) := fun s => (X1.below s.2).c2
      have lX13 : ∀ s : In w21, s.1.cell? ⟨q, 3, none⟩ = some (.int .i64 x.wd) := fun s => (X1.below s.2).c3
      have lX20 : ∀ s : In w21, s.1.cell? ⟨(q + 1), 0, none⟩ = some (.int .i64 y.ep) := fun s => (X2.below s.2).c0
      have lX21 : ∀ s : In w21, s.1.cell? ⟨(q + 1), 1, none⟩ = some (.int .i64 y.pg) := fun s => (X2.below s.2).c1
      have lX22 : ∀ s : In w21, s.1.cell? ⟨(q + 1), 2, none⟩ = some (.int .i64 y.dr) := fun s => (X2.below s.2).c2
      have lX23 : ∀ s : In w21, s.1.cell? ⟨(q + 1), 3, none⟩ = some (.int .i64 y.wd) := fun s => (X2.below s.2).c3
      have lX30 : ∀ s : In w21, s.1.cell? ⟨q2, 0, none⟩ = some (.int .i64 x.ep) := fun s => (X3.below s.2).c0
      have lX31 : ∀ s : In w21, s.1.cell? ⟨q2, 1, none⟩ = some (.int .i64 x.pg) := fun s => (X3.below s.2).c1
      have lX32 : ∀ s : In w21, s.1.cell? ⟨q2, 2, none⟩ = some (.int .i64 x.dr) := fun s => (X3.below s.2).c2
      have lX33 : ∀ s : In w21, s.1.cell? ⟨q2, 3, none⟩ = some (.int .i64 x.wd) := fun s => (X3.below s.2).c3
      have lX40 : ∀ s : In w21, s.1.cell? ⟨(q2 + 1), 0, none⟩ = some (.int .i64 y.ep) := fun s => (X4.below s.2).c0
      have lX41 : ∀ s : In w21, s.1.cell? ⟨(q2 + 1), 1, none⟩ = some (.int .i64 y.pg) := fun s => (X4.below s.2).c1
      have lX42 : ∀ s : In w21, s.1.cell? ⟨(q2 + 1), 2, none⟩ = some (.int .i64 y.dr) := fun s => (X4.below s.2).c2
      have lX43 : ∀ s : In w21, s.1.cell? ⟨(q2 + 1), 3, none⟩ = some (.int .i64 y.wd) := fun s => (X4.below s.2).c3
      clear X1 X2 X3 X4
      have hne := In.some w21
      refine region_in w21 (by kernel_rfl) (by kernel_rfl) (Below.refl _ _) ?_
      repeat (go_big_quiet_step (fail))
      go_big_quiet_step ((go_at_call 17; exact Calls.quiet_in (HTX.out _)))
      repeat (go_big_quiet_step (fail))
      go_big_quiet_step ((go_at_call 17; exact Calls.quiet_in (HTY.out _)))
      repeat (go_big_quiet_step (fail))
      refine wpQuiet_nil ?_
      intro w22 hw'
      have hb22 : Below w21.heap.size w21 w22 := by
        obtain ⟨⟨wz, hbz⟩, hw''⟩ := hw'
        subst hw''
        exact hbz
      clear hw'
      go_wp2_with fail
      go_meet
      exact ⟨rfl, Lib.hid (HU.out.st.more hb22)⟩
    case rest =>
    as_aux_lemma =>
    obtain ⟨hv, hc⟩ := hcut
    subst hv
    clear HU HTX HTY
    have HS := Lib.hid hc.out
    clear hc
    go_wp2_with fail
    refine (ST.fail HS.out (by have := HGM.out; omega)).mono ?_
    rintro e w23 ⟨rfl, m3, hs, hd3, hl3, hn3, hr3⟩
    have HS23 := Lib.hid hs
    have HM3 : Hid (m3.down = true ∧ m3.out.length = 4 * pages ∧ m3.done ≤ 2 ∧ m3.row.length ≤ 1000) := Lib.hid ⟨hd3, by rw [hl3]; exact HGM.out.1, by rw [hn3]; exact HGM.out.2.1, hr3⟩
    clear hs HS HGM hd3 hl3 hn3 hr3
    go_wp2_with fail
    have HLD := Lib.hid (ST.load HS23.out)
    rw [load_down HM3.out.1 (by rw [HM3.out.2.1]; omega)] at HLD
    unfold Rt.val at HLD
    refine HLD.out.mono ?_
    clear HLD
    rintro e w24 ⟨rfl, hs, _⟩
    have HS24 := Lib.hid hs
    clear hs HS23
    go_upto_region 28 with fail
    have HS25 := Lib.hid ((HS24.out.more (alloc_below w24 (.cells #[.int .i64 (ldA m3).ep, .int .i64 (ldA m3).pg, .int .i64 (ldA m3).dr, .int .i64 (ldA m3).wd] 29))).more (alloc_below (w24.alloc (.cells #[.int .i64 (ldA m3).ep, .int .i64 (ldA m3).pg, .int .i64 (ldA m3).dr, .int .i64 (ldA m3).wd] 29)) (.cells #[.int .i64 (ldB m3).ep, .int .i64 (ldB m3).pg, .int .i64 (ldB m3).dr, .int .i64 (ldB m3).wd] 29)))
    clear HS24
    generalize (w24.alloc (.cells #[.int .i64 (ldA m3).ep, .int .i64 (ldA m3).pg, .int .i64 (ldA m3).dr, .int .i64 (ldA m3).wd] 29)).alloc (.cells #[.int .i64 (ldB m3).ep, .int .i64 (ldB m3).pg, .int .i64 (ldB m3).dr, .int .i64 (ldB m3).wd] 29) = w25 at *
    cases c1 with
    | true =>
      obtain ⟨hMa, hpa⟩ := HC1.out rfl
      have k30 := HS25.out.tb.b3.c0
      have k31 := HS25.out.tb.b3.c1
      have k32 := HS25.out.tb.b3.c2
      have k33 := HS25.out.tb.b3.c3
      go_wp2_with fail
      refine (HMA.out _).mono ?_
      rintro e w26 ⟨rfl, hb⟩
      have HS26 := Lib.hid (HS25.out.more hb)
      clear hb HS25 k30 k31 k32 k33
      go_wp2_with fail
      refine (ST.storeDown HS26.out a hMa (by have := HM3.out.2.1; omega) HM3.out.1 (by have := HM3.out.2.2.1; omega) HM3.out.2.2.2).mono ?_
      rintro e w27 ⟨rfl, hb⟩
      have HB27 := Lib.hid hb
      clear hb HS26
      go_wp2_with (go_at_call 8; refine (lives_any _).mono ?_; rintro e w9 ⟨rfl, hb9⟩)
      go_ret
      exact ⟨rfl, Below.more HB27.out hb9 HB27.out.size⟩
    | false =>
      go_wp2_with (go_at_call 8; refine (lives_any _).mono ?_; rintro e w9 ⟨rfl, hb9⟩)
      go_ret
      exact ⟨rfl, Below.more HS25.out.tb.below hb9 HS25.out.tb.below.size⟩
end
end Go.Proofs.Ytnjlhallkgacjaa
