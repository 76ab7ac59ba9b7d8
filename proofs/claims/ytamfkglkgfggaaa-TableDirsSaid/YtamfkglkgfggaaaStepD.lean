/- A step that drops a page. -/
import Derived.Test.YtamfkglkgfggaaaStepS
set_option linter.unusedSimpArgs false
namespace Go.Proofs.Ytamfkglkgfggaaa
open Go.RowKit

set_option maxRecDepth 100000 in
set_option maxHeartbeats 1600000 in
theorem step_drop_in {w : World} {g : Nat} {f : Nat → Nat} (h : Tab w g f) (l : Nat) (P : Int) (hl : l < 512) :
    Calls Try.prog 29 #[.pointer (some ⟨g, 0, none⟩), .agg (rowA f 512), .agg #[.int .i64 1, .int .i64 (l : Int), .int .i64 P]] w fun e w' =>
      e = .returned (.tuple #[.agg (rowA (updN f l 0) 512), .bool true]) ∧ Tab w' g (updN f l 0) ∧ Only g w w' := by
  obtain ⟨hz, -⟩ := zero_of_info (P := Try.prog) info25
  have HE := Lib.hid (ent_made h 1 (l : Int) P)
  have HB0 := Lib.hid h.lt
  have KI : Hid (∀ F, (Try.prog.info? 25).map (·.size) = some (rowA F 512).size) := Lib.hid fun F => by rw [size25, rowA_size]
  clear h
  have hd1 : decide ((l : Int) ≥ 0) = true := decide_eq_true (by omega)
  have hd1' : decide ((0 : Int) ≤ (l : Int)) = true := decide_eq_true (by omega)
  have hd2 : decide ((l : Int) < 512) = true := decide_eq_true (by omega)
  have hlz : (l : Int) < 512 := by omega
  have HL := Lib.hid hl
  have HDT : Hid (dropT f (l : Int) = updN f l 0) := Lib.hid (by unfold dropT; rw [if_pos ⟨by omega, by omega⟩, Int.toNat_natCast])
  have HBQ : Hid ((!(getI f (l : Int) == 0)) = (((f l : Nat) : Int) != 0)) := Lib.hid (by rw [getI_nat f hl]; exact told_int f l)
  have HDR : Hid (∀ w', Tab w' g f → Calls Try.prog 53 #[.pointer (some ⟨g, 0, none⟩), .int .i64 (l : Int)] w' fun e w'' => e = .returned (.bool (((f l : Nat) : Int) != 0)) ∧ Tab w'' g (updN f l 0) ∧ Only g w' w'') := Lib.hid fun w' hT => by
    have := drop_tab hT (l : Int)
    rwa [HBQ.out, HDT.out] at this
  clear hl
  generalize hXX : rowA f 512 = X at *
  have HXX := Lib.hid hXX
  generalize hZZ : rowA (fun _ => 0) 512 = Z at *
  have HZZ := Lib.hid hZZ
  clear hXX hZZ
  go_enter Try.func29, Try.ntmps29
  go_upto_region 1 with fail
  generalize World.alloc (World.alloc (World.alloc _ _) _) _ = W at *
  have hc0 := HE.out.ck
  have hc1 := HE.out.ss.cl
  have hcx := HE.out.ss.row.cell l HL.out
  have hfx := HE.out.ss.row.free l
  have HS2 : Hid (SS w.heap.size (updN f l 0) (l : Int) (W.setCell ⟨w.heap.size, l, none⟩ (.int .i64 0))) := Lib.hid ⟨HE.out.ss.row.put l 0, (World.cell?_of_block ((Below.heap_setCell W _ _ (w.heap.size + 1) (by show w.heap.size + 1 ≠ w.heap.size; omega)))).trans hc1, HE.out.ss.out.other (by show w.heap.size + 2 ≠ w.heap.size; omega) _⟩
  have HB2 : Hid (Below w.heap.size w (W.setCell ⟨w.heap.size, l, none⟩ (.int .i64 0))) := Lib.hid (HE.out.bel.setCell (p := ⟨w.heap.size, l, none⟩) (Nat.le_refl _) _)
  have HT2 : Hid (Tab (W.setCell ⟨w.heap.size, l, none⟩ (.int .i64 0)) g f) := Lib.hid (HE.out.tab.same (Below.heap_setCell W _ _ g (by show g ≠ w.heap.size; have := HB0.out; omega)))
  clear HBQ
  generalize hbq : (((f l : Nat) : Int) != 0) = bq at *
  have HBB := Lib.hid hbq
  go_upto_region 13 with fail
  generalize W.setCell ⟨w.heap.size, l, none⟩ (.int .i64 0) = W2 at *
  refine wp_region_held_drew (S := SR w.heap.size (updN f l 0) (l : Int)) (by kernel_rfl) HS2.out.drew.sr (fun hS => ?_)
  refine wpAnyH_take (i := 0) (v := .agg (ints (updN f l 0) 0 512).toArray) rfl (by kernel_rfl) (by kernel_rfl) (by kernel_rfl) (fun _ _ _ h => h) (yieldsIf_load_mid rfl 25 (.tmp 4) rfl w.heap.size 0 rfl _ _ (fun w h => h.range) Try.underlying25 rfl (by rw [size25, ints_len])) hS ?_
  simp only [List.getElem_toArray, List.getElem_cons_succ, List.getElem_cons_zero, Act.put, List.setIfInBounds_toArray, List.set_cons_succ, List.set_cons_zero]
  refine wpAnyH_take (i := 1) (v := .pointer (some ⟨g, 0, none⟩)) rfl (by kernel_rfl) (by kernel_rfl) (by kernel_rfl) (fun _ _ _ h => h) (Or.inl ⟨by rfl, fun w hw => by go_simp⟩) hS ?_
  simp only [List.getElem_toArray, List.getElem_cons_succ, List.getElem_cons_zero, Act.put, List.setIfInBounds_toArray, List.set_cons_succ, List.set_cons_zero]
  refine wpAnyH_take (i := 2) (v := .pointer (some ⟨w.heap.size + 1, 1, none⟩)) rfl (by kernel_rfl) (by kernel_rfl) (by kernel_rfl) (fun _ _ _ h => h) (Or.inl ⟨by rfl, fun w hw => by go_simp⟩) hS ?_
  simp only [List.getElem_toArray, List.getElem_cons_succ, List.getElem_cons_zero, Act.put, List.setIfInBounds_toArray, List.set_cons_succ, List.set_cons_zero]
  refine wpAnyH_take (i := 3) (v := .int .i64 (l : Int)) rfl (by kernel_rfl) (by kernel_rfl) (by kernel_rfl) (fun _ _ _ h => h) (Or.inl ⟨by rfl, fun w hw => by have hc := hw.cl; go_simp⟩) hS ?_
  simp only [List.getElem_toArray, List.getElem_cons_succ, List.getElem_cons_zero, Act.put, List.setIfInBounds_toArray, List.set_cons_succ, List.set_cons_zero]
  refine wpAnyH_take (i := 5) (v := .bool bq) rfl (by kernel_rfl) (by kernel_rfl) (by kernel_rfl) (fun _ _ _ h => h) (Or.inl ⟨by rfl, fun w hw => by go_simp⟩) hS ?_
  simp only [List.getElem_toArray, List.getElem_cons_succ, List.getElem_cons_zero, Act.put, List.setIfInBounds_toArray, List.set_cons_succ, List.set_cons_zero]
  refine wpAnyH_ready (rs := [4]) (by kernel_rfl) (by simp) ?_
  refine AllReadyH.cons rfl (fun K hK => ?_) AllReadyH.nil
  rw [if_pos (by rfl)]
  simp only [List.getElem_toArray, List.getElem_cons_succ, List.getElem_cons_zero, Act.put, List.setIfInBounds_toArray, List.set_cons_succ, List.set_cons_zero]
  go_simp
  go_at_call 53
  refine (HDR.out _ HT2.out.drew).mono ?_
  rintro e w9 ⟨rfl, hT9, ho9⟩
  refine hK.out _ _ (hS.only ho9 HB0.out) (fun hS9 => ?_)
  clear hK K
  refine wpAnyH_take (i := 6) (v := .bool true) rfl (by kernel_rfl) (by kernel_rfl) (by kernel_rfl) (fun _ _ _ h => h) (Or.inl ⟨by rfl, fun w hw => by go_simp⟩) hS9 ?_
  simp only [List.getElem_toArray, List.getElem_cons_succ, List.getElem_cons_zero, Act.put, List.setIfInBounds_toArray, List.set_cons_succ, List.set_cons_zero]
  refine wpAnyH_ready (rs := [7]) (by kernel_rfl) (by simp) ?_
  refine AllReadyH.cons rfl (fun K hK => ?_) AllReadyH.nil
  rw [if_pos (by rfl)]
  simp only [List.getElem_toArray, List.getElem_cons_succ, List.getElem_cons_zero, Act.put, List.setIfInBounds_toArray, List.set_cons_succ, List.set_cons_zero]
  have HU9 := Lib.hid (HS2.out.drew.out.only ho9 (by have := HB0.out; omega))
  refine wp_store_row 25 (.tmp 6) (.tmp 65) rfl (w.heap.size + 2) (rowA (updN f l 0) 512) rfl rfl 25 (rowA (fun _ => 0) 512) HU9.out (KI.out _) (by rw [rowA_size, rowA_size]) (rowA_one _ _) ?_
  refine hK.out _ _ (hS9.setRow _) (fun hS10 => ?_)
  clear hK K
  refine wpAnyH_take (i := 8) (v := .bool true) rfl (by kernel_rfl) (by kernel_rfl) (by kernel_rfl) (fun _ _ _ h => h) (Or.inl ⟨by rfl, fun w hw => by go_simp⟩) hS10 ?_
  simp only [List.getElem_toArray, List.getElem_cons_succ, List.getElem_cons_zero, Act.put, List.setIfInBounds_toArray, List.set_cons_succ, List.set_cons_zero]
  refine wpAnyH_done (by kernel_rfl) ?_ _
  go_wp2_with fail
  have HWR := Lib.hid (below_row (Below.refl w.heap.size w9) (show w.heap.size ≤ w.heap.size + 2 by omega) (rowA (updN f l 0) 512))
  refine bodyPost_ret (results_row_tmp Try.results29 _ _ (w.heap.size + 2) 25 (rowA (updN f l 0) 512) (0, 0) _ rfl (setRow_heap _ _ _ _ _ _ HU9.out) Try.underlying25 rfl (KI.out _)) rfl ?_
  exact ⟨rfl, hT9.same (HWR.out.block g HB0.out), ((Only.of_below HB2.out.drew).trans ho9).then HWR.out (Nat.le_refl _)⟩
set_option maxRecDepth 100000 in
set_option maxHeartbeats 1600000 in
theorem step_drop_out {w : World} {g : Nat} {f : Nat → Nat} (h : Tab w g f) (L P : Int) (hx : ¬ (0 ≤ L ∧ L < 512)) :
    Calls Try.prog 29 #[.pointer (some ⟨g, 0, none⟩), .agg (rowA f 512), .agg #[.int .i64 1, .int .i64 L, .int .i64 P]] w fun e w' =>
      e = .returned (.tuple #[.agg (rowA f 512), .bool true]) ∧ Tab w' g f ∧ Only g w w' := by
  obtain ⟨hz, -⟩ := zero_of_info (P := Try.prog) info25
  have HE := Lib.hid (ent_made h 1 L P)
  have HB0 := Lib.hid h.lt
  have KI : Hid (∀ F, (Try.prog.info? 25).map (·.size) = some (rowA F 512).size) := Lib.hid fun F => by rw [size25, rowA_size]
  clear h
  have HDR : Hid (∀ w', Tab w' g f → Calls Try.prog 53 #[.pointer (some ⟨g, 0, none⟩), .int .i64 L] w' fun e w'' => e = .returned (.bool false) ∧ Tab w'' g f ∧ Only g w' w'') := Lib.hid fun w' hT => by
    have := drop_tab hT L
    rw [getI_out f hx] at this
    unfold dropT at this
    rwa [if_neg hx] at this
  have HX := Lib.hid hx
  clear hx
  obtain ⟨bq, hbq⟩ : ∃ bq, bq = false := ⟨_, rfl⟩
  rw [← hbq] at HDR
  generalize hXX : rowA f 512 = X at *
  have HXX := Lib.hid hXX
  generalize hZZ : rowA (fun _ => 0) 512 = Z at *
  have HZZ := Lib.hid hZZ
  clear hXX hZZ
  go_enter Try.func29, Try.ntmps29
  go_upto_region 1 with fail
  generalize World.alloc (World.alloc (World.alloc _ _) _) _ = W at *
  have hc0 := HE.out.ck
  have hc1 := HE.out.ss.cl
  by_cases h0 : 0 ≤ L
  · have hd1 : decide (L ≥ 0) = true := decide_eq_true h0
    have hd1' : decide ((0 : Int) ≤ L) = true := decide_eq_true h0
    have hd2 : decide (L < 512) = false := decide_eq_false fun h => HX.out ⟨h0, h⟩
    subst hbq
    go_upto_region 13 with fail
    have HS2 := Lib.hid HE.out.ss
    have HB2 := Lib.hid HE.out.bel
    have HT2 := Lib.hid HE.out.tab
    refine wp_region_held_drew (S := SR w.heap.size f L) (by kernel_rfl) HS2.out.drew.sr (fun hS => ?_)
    refine wpAnyH_take (i := 0) (v := .agg (ints f 0 512).toArray) rfl (by kernel_rfl) (by kernel_rfl) (by kernel_rfl) (fun _ _ _ h => h) (yieldsIf_load_mid rfl 25 (.tmp 4) rfl w.heap.size 0 rfl _ _ (fun w h => h.range) Try.underlying25 rfl (by rw [size25, ints_len])) hS ?_
    simp only [List.getElem_toArray, List.getElem_cons_succ, List.getElem_cons_zero, Act.put, List.setIfInBounds_toArray, List.set_cons_succ, List.set_cons_zero]
    refine wpAnyH_take (i := 1) (v := .pointer (some ⟨g, 0, none⟩)) rfl (by kernel_rfl) (by kernel_rfl) (by kernel_rfl) (fun _ _ _ h => h) (Or.inl ⟨by rfl, fun w hw => by go_simp⟩) hS ?_
    simp only [List.getElem_toArray, List.getElem_cons_succ, List.getElem_cons_zero, Act.put, List.setIfInBounds_toArray, List.set_cons_succ, List.set_cons_zero]
    refine wpAnyH_take (i := 2) (v := .pointer (some ⟨w.heap.size + 1, 1, none⟩)) rfl (by kernel_rfl) (by kernel_rfl) (by kernel_rfl) (fun _ _ _ h => h) (Or.inl ⟨by rfl, fun w hw => by go_simp⟩) hS ?_
    simp only [List.getElem_toArray, List.getElem_cons_succ, List.getElem_cons_zero, Act.put, List.setIfInBounds_toArray, List.set_cons_succ, List.set_cons_zero]
    refine wpAnyH_take (i := 3) (v := .int .i64 L) rfl (by kernel_rfl) (by kernel_rfl) (by kernel_rfl) (fun _ _ _ h => h) (Or.inl ⟨by rfl, fun w hw => by have hc := hw.cl; go_simp⟩) hS ?_
    simp only [List.getElem_toArray, List.getElem_cons_succ, List.getElem_cons_zero, Act.put, List.setIfInBounds_toArray, List.set_cons_succ, List.set_cons_zero]
    refine wpAnyH_take (i := 5) (v := .bool false) rfl (by kernel_rfl) (by kernel_rfl) (by kernel_rfl) (fun _ _ _ h => h) (Or.inl ⟨by rfl, fun w hw => by go_simp⟩) hS ?_
    simp only [List.getElem_toArray, List.getElem_cons_succ, List.getElem_cons_zero, Act.put, List.setIfInBounds_toArray, List.set_cons_succ, List.set_cons_zero]
    refine wpAnyH_ready (rs := [4]) (by kernel_rfl) (by simp) ?_
    refine AllReadyH.cons rfl (fun K hK => ?_) AllReadyH.nil
    rw [if_pos (by rfl)]
    simp only [List.getElem_toArray, List.getElem_cons_succ, List.getElem_cons_zero, Act.put, List.setIfInBounds_toArray, List.set_cons_succ, List.set_cons_zero]
    go_simp
    go_at_call 53
    refine (HDR.out _ HT2.out.drew).mono ?_
    rintro e w9 ⟨rfl, hT9, ho9⟩
    refine hK.out _ _ (hS.only ho9 HB0.out) (fun hS9 => ?_)
    clear hK K
    refine wpAnyH_take (i := 6) (v := .bool true) rfl (by kernel_rfl) (by kernel_rfl) (by kernel_rfl) (fun _ _ _ h => h) (Or.inl ⟨by rfl, fun w hw => by go_simp⟩) hS9 ?_
    simp only [List.getElem_toArray, List.getElem_cons_succ, List.getElem_cons_zero, Act.put, List.setIfInBounds_toArray, List.set_cons_succ, List.set_cons_zero]
    refine wpAnyH_ready (rs := [7]) (by kernel_rfl) (by simp) ?_
    refine AllReadyH.cons rfl (fun K hK => ?_) AllReadyH.nil
    rw [if_pos (by rfl)]
    simp only [List.getElem_toArray, List.getElem_cons_succ, List.getElem_cons_zero, Act.put, List.setIfInBounds_toArray, List.set_cons_succ, List.set_cons_zero]
    have HU9 := Lib.hid (HS2.out.drew.out.only ho9 (by have := HB0.out; omega))
    refine wp_store_row 25 (.tmp 6) (.tmp 65) rfl (w.heap.size + 2) (rowA f 512) rfl rfl 25 (rowA (fun _ => 0) 512) HU9.out (KI.out _) (by rw [rowA_size, rowA_size]) (rowA_one _ _) ?_
    refine hK.out _ _ (hS9.setRow _) (fun hS10 => ?_)
    clear hK K
    refine wpAnyH_take (i := 8) (v := .bool true) rfl (by kernel_rfl) (by kernel_rfl) (by kernel_rfl) (fun _ _ _ h => h) (Or.inl ⟨by rfl, fun w hw => by go_simp⟩) hS10 ?_
    simp only [List.getElem_toArray, List.getElem_cons_succ, List.getElem_cons_zero, Act.put, List.setIfInBounds_toArray, List.set_cons_succ, List.set_cons_zero]
    refine wpAnyH_done (by kernel_rfl) ?_ _
    go_wp2_with fail
    have HWR := Lib.hid (below_row (Below.refl w.heap.size w9) (show w.heap.size ≤ w.heap.size + 2 by omega) (rowA f 512))
    refine bodyPost_ret (results_row_tmp Try.results29 _ _ (w.heap.size + 2) 25 (rowA f 512) (0, 0) _ rfl (setRow_heap _ _ _ _ _ _ HU9.out) Try.underlying25 rfl (KI.out _)) rfl ?_
    exact ⟨by rw [HXX.out]; rfl, hT9.same (HWR.out.block g HB0.out), ((Only.of_below HB2.out.drew).trans ho9).then HWR.out (Nat.le_refl _)⟩
  · have hd1 : decide (L ≥ 0) = false := decide_eq_false h0
    have hd1' : decide ((0 : Int) ≤ L) = false := decide_eq_false h0
    subst hbq
    go_upto_region 13 with fail
    have HS2 := Lib.hid HE.out.ss
    have HB2 := Lib.hid HE.out.bel
    have HT2 := Lib.hid HE.out.tab
    refine wp_region_held_drew (S := SR w.heap.size f L) (by kernel_rfl) HS2.out.drew.sr (fun hS => ?_)
    refine wpAnyH_take (i := 0) (v := .agg (ints f 0 512).toArray) rfl (by kernel_rfl) (by kernel_rfl) (by kernel_rfl) (fun _ _ _ h => h) (yieldsIf_load_mid rfl 25 (.tmp 4) rfl w.heap.size 0 rfl _ _ (fun w h => h.range) Try.underlying25 rfl (by rw [size25, ints_len])) hS ?_
    simp only [List.getElem_toArray, List.getElem_cons_succ, List.getElem_cons_zero, Act.put, List.setIfInBounds_toArray, List.set_cons_succ, List.set_cons_zero]
    refine wpAnyH_take (i := 1) (v := .pointer (some ⟨g, 0, none⟩)) rfl (by kernel_rfl) (by kernel_rfl) (by kernel_rfl) (fun _ _ _ h => h) (Or.inl ⟨by rfl, fun w hw => by go_simp⟩) hS ?_
    simp only [List.getElem_toArray, List.getElem_cons_succ, List.getElem_cons_zero, Act.put, List.setIfInBounds_toArray, List.set_cons_succ, List.set_cons_zero]
    refine wpAnyH_take (i := 2) (v := .pointer (some ⟨w.heap.size + 1, 1, none⟩)) rfl (by kernel_rfl) (by kernel_rfl) (by kernel_rfl) (fun _ _ _ h => h) (Or.inl ⟨by rfl, fun w hw => by go_simp⟩) hS ?_
    simp only [List.getElem_toArray, List.getElem_cons_succ, List.getElem_cons_zero, Act.put, List.setIfInBounds_toArray, List.set_cons_succ, List.set_cons_zero]
    refine wpAnyH_take (i := 3) (v := .int .i64 L) rfl (by kernel_rfl) (by kernel_rfl) (by kernel_rfl) (fun _ _ _ h => h) (Or.inl ⟨by rfl, fun w hw => by have hc := hw.cl; go_simp⟩) hS ?_
    simp only [List.getElem_toArray, List.getElem_cons_succ, List.getElem_cons_zero, Act.put, List.setIfInBounds_toArray, List.set_cons_succ, List.set_cons_zero]
    refine wpAnyH_take (i := 5) (v := .bool false) rfl (by kernel_rfl) (by kernel_rfl) (by kernel_rfl) (fun _ _ _ h => h) (Or.inl ⟨by rfl, fun w hw => by go_simp⟩) hS ?_
    simp only [List.getElem_toArray, List.getElem_cons_succ, List.getElem_cons_zero, Act.put, List.setIfInBounds_toArray, List.set_cons_succ, List.set_cons_zero]
    refine wpAnyH_ready (rs := [4]) (by kernel_rfl) (by simp) ?_
    refine AllReadyH.cons rfl (fun K hK => ?_) AllReadyH.nil
    rw [if_pos (by rfl)]
    simp only [List.getElem_toArray, List.getElem_cons_succ, List.getElem_cons_zero, Act.put, List.setIfInBounds_toArray, List.set_cons_succ, List.set_cons_zero]
    go_simp
    go_at_call 53
    refine (HDR.out _ HT2.out.drew).mono ?_
    rintro e w9 ⟨rfl, hT9, ho9⟩
    refine hK.out _ _ (hS.only ho9 HB0.out) (fun hS9 => ?_)
    clear hK K
    refine wpAnyH_take (i := 6) (v := .bool true) rfl (by kernel_rfl) (by kernel_rfl) (by kernel_rfl) (fun _ _ _ h => h) (Or.inl ⟨by rfl, fun w hw => by go_simp⟩) hS9 ?_
    simp only [List.getElem_toArray, List.getElem_cons_succ, List.getElem_cons_zero, Act.put, List.setIfInBounds_toArray, List.set_cons_succ, List.set_cons_zero]
    refine wpAnyH_ready (rs := [7]) (by kernel_rfl) (by simp) ?_
    refine AllReadyH.cons rfl (fun K hK => ?_) AllReadyH.nil
    rw [if_pos (by rfl)]
    simp only [List.getElem_toArray, List.getElem_cons_succ, List.getElem_cons_zero, Act.put, List.setIfInBounds_toArray, List.set_cons_succ, List.set_cons_zero]
    have HU9 := Lib.hid (HS2.out.drew.out.only ho9 (by have := HB0.out; omega))
    refine wp_store_row 25 (.tmp 6) (.tmp 65) rfl (w.heap.size + 2) (rowA f 512) rfl rfl 25 (rowA (fun _ => 0) 512) HU9.out (KI.out _) (by rw [rowA_size, rowA_size]) (rowA_one _ _) ?_
    refine hK.out _ _ (hS9.setRow _) (fun hS10 => ?_)
    clear hK K
    refine wpAnyH_take (i := 8) (v := .bool true) rfl (by kernel_rfl) (by kernel_rfl) (by kernel_rfl) (fun _ _ _ h => h) (Or.inl ⟨by rfl, fun w hw => by go_simp⟩) hS10 ?_
    simp only [List.getElem_toArray, List.getElem_cons_succ, List.getElem_cons_zero, Act.put, List.setIfInBounds_toArray, List.set_cons_succ, List.set_cons_zero]
    refine wpAnyH_done (by kernel_rfl) ?_ _
    go_wp2_with fail
    have HWR := Lib.hid (below_row (Below.refl w.heap.size w9) (show w.heap.size ≤ w.heap.size + 2 by omega) (rowA f 512))
    refine bodyPost_ret (results_row_tmp Try.results29 _ _ (w.heap.size + 2) 25 (rowA f 512) (0, 0) _ rfl (setRow_heap _ _ _ _ _ _ HU9.out) Try.underlying25 rfl (KI.out _)) rfl ?_
    exact ⟨by rw [HXX.out]; rfl, hT9.same (HWR.out.block g HB0.out), ((Only.of_below HB2.out.drew).trans ho9).then HWR.out (Nat.le_refl _)⟩
end Go.Proofs.Ytamfkglkgfggaaa
