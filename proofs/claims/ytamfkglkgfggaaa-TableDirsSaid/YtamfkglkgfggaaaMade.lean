/- A table behind some steps, and the row: the walk. -/
import Derived.Test.YtamfkglkgfggaaaMade0
set_option linter.unusedSimpArgs false
namespace Go.Proofs.Ytamfkglkgfggaaa
open Go.RowKit

theorem new_exact (w : World) : Calls Try.prog 17 #[] w fun e w' => e = .returned (.pointer (some ⟨w.heap.size, 0, none⟩)) ∧ w' = w.alloc (.cells (rowA (fun _ => 0) 512) 84) := by
  obtain ⟨hz, hi⟩ := zero_of_info (P := Try.prog) info84
  generalize rowA (fun _ => 0) 512 = Z at *
  clear hi
  go_enter Try.func17, Try.ntmps17
  go_wp2_with fail
  go_ret
  exact ⟨rfl, rfl⟩
theorem IsT.below0 {w : World} {g t n : Nat} {f : Nat → Nat} (h : IsT w g t f n) : IsT w.drew g t f n := h
set_option maxRecDepth 100000 in
set_option maxHeartbeats 3200000 in
theorem made_any (p : Option Addr) (n c : Nat) (f : Nat → Op3) (w : World) (hn : n ≤ 9223372036854775807) (hO : OpsIn w p n f) :
    Calls Try.prog 7 #[.slice p n c] w fun e w' => e = .returned (.tuple #[.pointer (some ⟨w.heap.size + 1, 0, none⟩), .agg (rowA (fsF f (min n 40)) 512), .bool true]) ∧ Tab w' (w.heap.size + 1) (fsF f (min n 40)) ∧ Below w.heap.size w w' := by
  obtain ⟨hz, -⟩ := zero_of_info (P := Try.prog) info25
  have KI : Hid (∀ F, (Try.prog.info? 25).map (·.size) = some (rowA F 512).size) := Lib.hid fun F => by rw [size25, rowA_size]
  have HO := Lib.hid hO
  have HN := Lib.hid hn
  have hnz : (n : Int) ≤ 9223372036854775807 := by omega
  have HNew := Lib.hid (fun w => new_exact w)
  have HW : Hid (Md w (((w.alloc (.cells (rowA (fun _ => 0) 512) 25)).alloc (.cells (rowA (fun _ => 0) 512) 84)).alloc (.cells (rowA (fun _ => 0) 512) 25)) f 0) := Lib.hid (by
    have b1 := (Below.refl (w.alloc (.cells (rowA (fun _ => 0) 512) 25)).heap.size (w.alloc (.cells (rowA (fun _ => 0) 512) 25))).alloc (Nat.le_refl _) (.cells (rowA (fun _ => 0) 512) 84)
    have b2 := (Below.refl ((w.alloc (.cells (rowA (fun _ => 0) 512) 25)).alloc (.cells (rowA (fun _ => 0) 512) 84)).heap.size ((w.alloc (.cells (rowA (fun _ => 0) 512) 25)).alloc (.cells (rowA (fun _ => 0) 512) 84))).alloc (Nat.le_refl _) (.cells (rowA (fun _ => 0) 512) 25)
    have h1 : IsT (w.alloc (.cells (rowA (fun _ => 0) 512) 25)) w.heap.size 25 (fun _ => 0) 512 := heap_alloc_new w _
    have h2 := heap_alloc_new (w.alloc (.cells (rowA (fun _ => 0) 512) 25)) (.cells (rowA (fun _ => 0) 512) 84)
    rw [show (w.alloc (.cells (rowA (fun _ => 0) 512) 25)).heap.size = w.heap.size + 1 by simp] at h2
    have h3 := heap_alloc_new ((w.alloc (.cells (rowA (fun _ => 0) 512) 25)).alloc (.cells (rowA (fun _ => 0) 512) 84)) (.cells (rowA (fun _ => 0) 512) 25)
    rw [show ((w.alloc (.cells (rowA (fun _ => 0) 512) 25)).alloc (.cells (rowA (fun _ => 0) 512) 84)).heap.size = w.heap.size + 2 by simp] at h3
    exact ⟨⟨(b2.block (w.heap.size + 1) (by simp)).trans h2, ok0⟩, h3, (h1.below b1).below b2, (((Below.refl _ _).alloc (Nat.le_refl _) _).alloc (by simp) _).alloc (by simp; omega) _⟩)
  clear hO hn
  have HZO := Lib.hid (rowA_one (fun _ => 0) 512)
  have HK0 := Lib.hid (KI.out fun _ => 0)
  have HSS := Lib.hid (fun W => setRow_same_row (w := W) (g := w.heap.size + 2) (t := 25) (f := fun _ => 0) (n := 512))
  have HRW : Hid ((((w.alloc (.cells (rowA (fun _ => 0) 512) 25)).alloc (.cells (rowA (fun _ => 0) 512) 84)).alloc (.cells (rowA (fun _ => 0) 512) 25)).heap[w.heap.size + 2]? = some (.cells (rowA (fun _ => 0) 512) 25 (0, 0))) := Lib.hid HW.out.row
  have HSE : Hid ((((w.alloc (.cells (rowA (fun _ => 0) 512) 25)).alloc (.cells (rowA (fun _ => 0) 512) 84)).alloc (.cells (rowA (fun _ => 0) 512) 25)).setRow (w.heap.size + 2) (rowA (fun _ => 0) 512) = ((w.alloc (.cells (rowA (fun _ => 0) 512) 25)).alloc (.cells (rowA (fun _ => 0) 512) 84)).alloc (.cells (rowA (fun _ => 0) 512) 25)) := Lib.hid (HSS.out _ HW.out.row)
  clear HSS
  generalize hZZ : rowA (fun _ => 0) 512 = Z at *
  have HZZ := Lib.hid hZZ
  clear hZZ
  go_enter Try.func7, Try.ntmps7
  go_upto_region 2 with (first
    | (go_at_call 17; refine (HNew.out _).mono ?_; rintro e w2 ⟨rfl, rfl⟩)
    | (refine wpList_store_row rfl 25 (.tmp 6) (.tmp 11) rfl (w.heap.size + 2) Z rfl rfl 25 Z HRW.out HK0.out rfl HZO.out ?_))
  rw [HSE.out]
  generalize World.alloc (World.alloc (World.alloc _ _) _) _ = W at *
  clear HSE HRW
  go_wp2_with fail
  go_loopw [8, 7] (fun iv rv wr => ∃ i : Nat, i ≤ n ∧ i ≤ 40 ∧ iv = .int .i64 (i : Int) ∧ rv = .bool true ∧ Md w wr f i) (fun iv _ _ => 40 - (intOf iv).toNat)
  case atStart => exact ⟨0, Nat.zero_le _, Nat.zero_le _, by go_num, rfl, HW.out⟩
  case round =>
    obtain ⟨i, hi1, hi2, rfl, rfl, hm⟩ := hrel
    have HM := Lib.hid hm
    have HI := Lib.hid (And.intro hi1 hi2)
    clear hm hi1 hi2 HW
    by_cases hlt : i < n ∧ i < 40
    · have hd1 : decide ((i : Int) < (n : Int)) = true := decide_eq_true (by omega)
      have hd2 : decide ((i : Int) < 40) = true := decide_eq_true (by omega)
      have hd3 : decide (i < n) = true := decide_eq_true hlt.1
      obtain ⟨b, o, rfl, hbl, hat⟩ := HO.out (by omega)
      have HRG := Lib.hid (range_block (hat i hlt.1).1 (HM.out.bel.block b hbl))
      have HLQ := Lib.hid (hat i hlt.1).2
      have HBL := Lib.hid hbl
      have HL := Lib.hid hlt
      have hiz : (i : Int) < 40 := by omega
      have hin : i < n := hlt.1
      clear hbl hat hlt
      go_upto_region 6 with fail
      refine wp_region_held_drew (S := fun w' => w'.rangeAt b (o + i * 3) [.int .i64 (f i).k, .int .i64 (f i).l, .int .i64 (f i).q]) (by kernel_rfl) ((World.rangeAt_drew _ _ _ _).2 HRG.out) (fun hS => ?_)
      refine wpAnyH_take (i := 0) (v := .pointer (some ⟨w.heap.size + 1, 0, none⟩)) rfl (by kernel_rfl) (by kernel_rfl) (by kernel_rfl) (fun _ _ _ h => h) (Or.inl ⟨by rfl, fun w hw => by go_simp⟩) hS ?_
      simp only [List.getElem_toArray, List.getElem_cons_succ, List.getElem_cons_zero, Act.put, List.setIfInBounds_toArray, List.set_cons_succ, List.set_cons_zero]
      refine wpAnyH_take (i := 2) (v := .slice (some ⟨b, o, none⟩) n c) rfl (by kernel_rfl) (by kernel_rfl) (by kernel_rfl) (fun _ _ _ h => h) (Or.inl ⟨by rfl, fun w hw => by go_simp⟩) hS ?_
      simp only [List.getElem_toArray, List.getElem_cons_succ, List.getElem_cons_zero, Act.put, List.setIfInBounds_toArray, List.set_cons_succ, List.set_cons_zero]
      refine wpAnyH_take (i := 3) (v := .int .i64 (i : Int)) rfl (by kernel_rfl) (by kernel_rfl) (by kernel_rfl) (fun _ _ _ h => h) (Or.inl ⟨by rfl, fun w hw => by go_simp⟩) hS ?_
      simp only [List.getElem_toArray, List.getElem_cons_succ, List.getElem_cons_zero, Act.put, List.setIfInBounds_toArray, List.set_cons_succ, List.set_cons_zero]
      refine wpAnyH_take (i := 4) (v := .pointer (some ⟨b, o + i * 3, none⟩)) rfl (by kernel_rfl) (by kernel_rfl) (by kernel_rfl) (fun _ _ _ h => h) (Or.inl ⟨by rfl, fun w hw => by go_simp⟩) hS ?_
      simp only [List.getElem_toArray, List.getElem_cons_succ, List.getElem_cons_zero, Act.put, List.setIfInBounds_toArray, List.set_cons_succ, List.set_cons_zero]
      refine wpAnyH_take (i := 5) (v := .agg #[.int .i64 (f i).k, .int .i64 (f i).l, .int .i64 (f i).q]) rfl (by kernel_rfl) (by kernel_rfl) (by kernel_rfl) (fun _ _ _ h => h) (yieldsIf_load_mid rfl 74 (.tmp 27) rfl b (o + i * 3) rfl [.int .i64 (f i).k, .int .i64 (f i).l, .int .i64 (f i).q] _ (fun w h => h) Try.underlying74 rfl (by kernel_rfl)) hS ?_
      simp only [List.getElem_toArray, List.getElem_cons_succ, List.getElem_cons_zero, Act.put, List.setIfInBounds_toArray, List.set_cons_succ, List.set_cons_zero]
      refine wpAnyH_ready (rs := [1]) (by kernel_rfl) (by simp) ?_
      refine AllReadyH.cons rfl (fun K hK => ?_) AllReadyH.nil
      rw [if_pos (by rfl)]
      simp only [List.getElem_toArray, List.getElem_cons_succ, List.getElem_cons_zero, Act.put, List.setIfInBounds_toArray, List.set_cons_succ, List.set_cons_zero]
      refine wp_load_row 25 (.tmp 6) rfl (w.heap.size + 2) rfl 25 (rowA (fsF f i) 512) (0, 0) _ HM.out.row Try.underlying25 rfl (KI.out _) ?_
      refine hK.out _ _ hS (fun _ => ?_)
      clear hK K
      simp only [List.getElem_toArray, List.getElem_cons_succ, List.getElem_cons_zero, Act.put, List.setIfInBounds_toArray, List.set_cons_succ, List.set_cons_zero]
      refine wpAnyH_ready (rs := [6]) (by kernel_rfl) (by simp) ?_
      refine AllReadyH.cons rfl (fun K hK => ?_) AllReadyH.nil
      rw [if_pos (by rfl)]
      simp only [List.getElem_toArray, List.getElem_cons_succ, List.getElem_cons_zero, Act.put, List.setIfInBounds_toArray, List.set_cons_succ, List.set_cons_zero]
      go_simp
      go_at_call 29
      refine (step_fs f i HM.out.tab.drew HLQ.out).mono ?_
      rintro e w9 ⟨rfl, hT9, ho9⟩
      refine hK.out _ _ (range_block hS (ho9.block b (by have := HM.out.bel.size; have := HBL.out; show b < wr.heap.size; omega) (by have := HBL.out; omega))) (fun hS9 => ?_)
      clear hK K
      refine wpAnyH_take (i := 7) (v := .tuple #[.agg (rowA (fsF f (i + 1)) 512), .bool true]) rfl (by kernel_rfl) (by kernel_rfl) (by kernel_rfl) (fun _ _ _ h => h) (Or.inl ⟨by rfl, fun w hw => by go_simp⟩) hS9 ?_
      simp only [List.getElem_toArray, List.getElem_cons_succ, List.getElem_cons_zero, Act.put, List.setIfInBounds_toArray, List.set_cons_succ, List.set_cons_zero]
      refine wpAnyH_take (i := 8) (v := .agg (rowA (fsF f (i + 1)) 512)) rfl (by kernel_rfl) (by kernel_rfl) (by kernel_rfl) (fun _ _ _ h => h) (Or.inl ⟨by rfl, fun w hw => by go_simp⟩) hS9 ?_
      simp only [List.getElem_toArray, List.getElem_cons_succ, List.getElem_cons_zero, Act.put, List.setIfInBounds_toArray, List.set_cons_succ, List.set_cons_zero]
      refine wpAnyH_take (i := 9) (v := .bool true) rfl (by kernel_rfl) (by kernel_rfl) (by kernel_rfl) (fun _ _ _ h => h) (Or.inl ⟨by rfl, fun w hw => by go_simp⟩) hS9 ?_
      simp only [List.getElem_toArray, List.getElem_cons_succ, List.getElem_cons_zero, Act.put, List.setIfInBounds_toArray, List.set_cons_succ, List.set_cons_zero]
      refine wpAnyH_ready (rs := [10]) (by kernel_rfl) (by simp) ?_
      refine AllReadyH.cons rfl (fun K hK => ?_) AllReadyH.nil
      rw [if_pos (by rfl)]
      simp only [List.getElem_toArray, List.getElem_cons_succ, List.getElem_cons_zero, Act.put, List.setIfInBounds_toArray, List.set_cons_succ, List.set_cons_zero]
      have HU9 := Lib.hid (IsT.only HM.out.row.below0 ho9 (by omega))
      refine wp_store_row 25 (.tmp 6) (.tmp 30) rfl (w.heap.size + 2) (rowA (fsF f (i + 1)) 512) rfl rfl 25 (rowA (fsF f i) 512) HU9.out (KI.out _) (by rw [rowA_size, rowA_size]) (rowA_one _ _) ?_
      refine hK.out _ _ (range_block hS9 (setRow_other _ _ _ _ (by have := HBL.out; omega))) (fun hS10 => ?_)
      clear hK K
      refine wpAnyH_take (i := 11) (v := .bool true) rfl (by kernel_rfl) (by kernel_rfl) (by kernel_rfl) (fun _ _ _ h => h) (Or.inl ⟨by rfl, fun w hw => by go_simp⟩) hS10 ?_
      simp only [List.getElem_toArray, List.getElem_cons_succ, List.getElem_cons_zero, Act.put, List.setIfInBounds_toArray, List.set_cons_succ, List.set_cons_zero]
      refine wpAnyH_done (by kernel_rfl) ?_ _
      have HMN : Hid (Md w (w9.setRow (w.heap.size + 2) (rowA (fsF f (i + 1)) 512)) f (i + 1)) := Lib.hid
        ⟨hT9.same (setRow_other w9 (w.heap.size + 2) (w.heap.size + 1) _ (by omega)), HU9.out.overRow _, (HM.out.out.below0.only ho9 (by omega)).same (setRow_other w9 (w.heap.size + 2) w.heap.size _ (by omega)),
          below_row ((ho9.below HM.out.bel.drew HM.out.bel.size (by omega))) (by omega) _⟩
      go_wp2_with fail
      go_roundw
      case rel => exact ⟨i + 1, by have := HL.out; omega, by have := HL.out; omega, by go_num, rfl, HMN.out⟩
      case measure => have := HL.out; simp [intOf]; omega
    · have HMI : Hid (i = min n 40) := Lib.hid (by have := HI.out; omega)
      by_cases hln : i < n
      · have hd1 : decide ((i : Int) < (n : Int)) = true := decide_eq_true (by omega)
        have hd3 : decide (i < n) = true := decide_eq_true hln
        have hd2 : decide ((i : Int) < 40) = false := decide_eq_false (by omega)
        clear hlt
        go_upto_region 8 with fail
        refine wp_region_held_drew (S := fun _ => True) (by kernel_rfl) trivial (fun hS => ?_)
        refine wpAnyH_take (i := 0) (v := .pointer (some ⟨w.heap.size + 1, 0, none⟩)) rfl (by kernel_rfl) (by kernel_rfl) (by kernel_rfl) (fun _ _ _ h => h) (Or.inl ⟨by rfl, fun w hw => by go_simp⟩) hS ?_
        simp only [List.getElem_toArray, List.getElem_cons_succ, List.getElem_cons_zero, Act.put, List.setIfInBounds_toArray, List.set_cons_succ, List.set_cons_zero]
        refine wpAnyH_take (i := 2) (v := .bool true) rfl (by kernel_rfl) (by kernel_rfl) (by kernel_rfl) (fun _ _ _ h => h) (Or.inl ⟨by rfl, fun w hw => by go_simp⟩) hS ?_
        simp only [List.getElem_toArray, List.getElem_cons_succ, List.getElem_cons_zero, Act.put, List.setIfInBounds_toArray, List.set_cons_succ, List.set_cons_zero]
        refine wpAnyH_take (i := 3) (v := .pointer (some ⟨w.heap.size + 1, 0, none⟩)) rfl (by kernel_rfl) (by kernel_rfl) (by kernel_rfl) (fun _ _ _ h => h) (Or.inl ⟨by rfl, fun w hw => by go_simp⟩) hS ?_
        simp only [List.getElem_toArray, List.getElem_cons_succ, List.getElem_cons_zero, Act.put, List.setIfInBounds_toArray, List.set_cons_succ, List.set_cons_zero]
        refine wpAnyH_ready (rs := [1]) (by kernel_rfl) (by simp) ?_
        refine AllReadyH.cons rfl (fun K hK => ?_) AllReadyH.nil
        rw [if_pos (by rfl)]
        simp only [List.getElem_toArray, List.getElem_cons_succ, List.getElem_cons_zero, Act.put, List.setIfInBounds_toArray, List.set_cons_succ, List.set_cons_zero]
        refine wp_load_row 25 (.tmp 6) rfl (w.heap.size + 2) rfl 25 (rowA (fsF f i) 512) (0, 0) _ HM.out.row Try.underlying25 rfl (KI.out _) ?_
        refine hK.out _ _ hS (fun _ => ?_)
        clear hK K
        simp only [List.getElem_toArray, List.getElem_cons_succ, List.getElem_cons_zero, Act.put, List.setIfInBounds_toArray, List.set_cons_succ, List.set_cons_zero]
        refine wpAnyH_ready (rs := [4]) (by kernel_rfl) (by simp) ?_
        refine AllReadyH.cons rfl (fun K hK => ?_) AllReadyH.nil
        rw [if_pos (by rfl)]
        simp only [List.getElem_toArray, List.getElem_cons_succ, List.getElem_cons_zero, Act.put, List.setIfInBounds_toArray, List.set_cons_succ, List.set_cons_zero]
        refine wp_store_row 25 (.tmp 3) (.tmp 37) rfl w.heap.size (rowA (fsF f i) 512) rfl rfl 25 (rowA (fun _ => 0) 512) HM.out.out (KI.out _) (by rw [rowA_size, rowA_size]) (rowA_one _ _) ?_
        refine hK.out _ _ hS (fun _ => ?_)
        clear hK K
        refine wpAnyH_take (i := 5) (v := .bool true) rfl (by kernel_rfl) (by kernel_rfl) (by kernel_rfl) (fun _ _ _ h => h) (Or.inl ⟨by rfl, fun w hw => by go_simp⟩) hS ?_
        simp only [List.getElem_toArray, List.getElem_cons_succ, List.getElem_cons_zero, Act.put, List.setIfInBounds_toArray, List.set_cons_succ, List.set_cons_zero]
        refine wpAnyH_done (by kernel_rfl) ?_ _
        go_wp2_with fail
        refine bodyPost_ret (results_made Try.results7 _ _ w.heap.size 25 (rowA (fsF f i) 512) (0, 0) _ rfl (setRow_heap _ _ _ _ _ _ HM.out.out) Try.underlying25 rfl (KI.out _)) rfl ?_
        rw [← HMI.out]
        exact ⟨rfl, HM.out.tab.drew.same (setRow_other _ w.heap.size (w.heap.size + 1) _ (by omega)), below_row HM.out.bel.drew (Nat.le_refl _) _⟩
      · have hd1 : decide ((i : Int) < (n : Int)) = false := decide_eq_false (by omega)
        have hd3 : decide (i < n) = false := decide_eq_false hln
        clear hlt
        go_upto_region 8 with fail
        refine wp_region_held_drew (S := fun _ => True) (by kernel_rfl) trivial (fun hS => ?_)
        refine wpAnyH_take (i := 0) (v := .pointer (some ⟨w.heap.size + 1, 0, none⟩)) rfl (by kernel_rfl) (by kernel_rfl) (by kernel_rfl) (fun _ _ _ h => h) (Or.inl ⟨by rfl, fun w hw => by go_simp⟩) hS ?_
        simp only [List.getElem_toArray, List.getElem_cons_succ, List.getElem_cons_zero, Act.put, List.setIfInBounds_toArray, List.set_cons_succ, List.set_cons_zero]
        refine wpAnyH_take (i := 2) (v := .bool true) rfl (by kernel_rfl) (by kernel_rfl) (by kernel_rfl) (fun _ _ _ h => h) (Or.inl ⟨by rfl, fun w hw => by go_simp⟩) hS ?_
        simp only [List.getElem_toArray, List.getElem_cons_succ, List.getElem_cons_zero, Act.put, List.setIfInBounds_toArray, List.set_cons_succ, List.set_cons_zero]
        refine wpAnyH_take (i := 3) (v := .pointer (some ⟨w.heap.size + 1, 0, none⟩)) rfl (by kernel_rfl) (by kernel_rfl) (by kernel_rfl) (fun _ _ _ h => h) (Or.inl ⟨by rfl, fun w hw => by go_simp⟩) hS ?_
        simp only [List.getElem_toArray, List.getElem_cons_succ, List.getElem_cons_zero, Act.put, List.setIfInBounds_toArray, List.set_cons_succ, List.set_cons_zero]
        refine wpAnyH_ready (rs := [1]) (by kernel_rfl) (by simp) ?_
        refine AllReadyH.cons rfl (fun K hK => ?_) AllReadyH.nil
        rw [if_pos (by rfl)]
        simp only [List.getElem_toArray, List.getElem_cons_succ, List.getElem_cons_zero, Act.put, List.setIfInBounds_toArray, List.set_cons_succ, List.set_cons_zero]
        refine wp_load_row 25 (.tmp 6) rfl (w.heap.size + 2) rfl 25 (rowA (fsF f i) 512) (0, 0) _ HM.out.row Try.underlying25 rfl (KI.out _) ?_
        refine hK.out _ _ hS (fun _ => ?_)
        clear hK K
        simp only [List.getElem_toArray, List.getElem_cons_succ, List.getElem_cons_zero, Act.put, List.setIfInBounds_toArray, List.set_cons_succ, List.set_cons_zero]
        refine wpAnyH_ready (rs := [4]) (by kernel_rfl) (by simp) ?_
        refine AllReadyH.cons rfl (fun K hK => ?_) AllReadyH.nil
        rw [if_pos (by rfl)]
        simp only [List.getElem_toArray, List.getElem_cons_succ, List.getElem_cons_zero, Act.put, List.setIfInBounds_toArray, List.set_cons_succ, List.set_cons_zero]
        refine wp_store_row 25 (.tmp 3) (.tmp 37) rfl w.heap.size (rowA (fsF f i) 512) rfl rfl 25 (rowA (fun _ => 0) 512) HM.out.out (KI.out _) (by rw [rowA_size, rowA_size]) (rowA_one _ _) ?_
        refine hK.out _ _ hS (fun _ => ?_)
        clear hK K
        refine wpAnyH_take (i := 5) (v := .bool true) rfl (by kernel_rfl) (by kernel_rfl) (by kernel_rfl) (fun _ _ _ h => h) (Or.inl ⟨by rfl, fun w hw => by go_simp⟩) hS ?_
        simp only [List.getElem_toArray, List.getElem_cons_succ, List.getElem_cons_zero, Act.put, List.setIfInBounds_toArray, List.set_cons_succ, List.set_cons_zero]
        refine wpAnyH_done (by kernel_rfl) ?_ _
        go_wp2_with fail
        refine bodyPost_ret (results_made Try.results7 _ _ w.heap.size 25 (rowA (fsF f i) 512) (0, 0) _ rfl (setRow_heap _ _ _ _ _ _ HM.out.out) Try.underlying25 rfl (KI.out _)) rfl ?_
        rw [← HMI.out]
        exact ⟨rfl, HM.out.tab.drew.same (setRow_other _ w.heap.size (w.heap.size + 1) _ (by omega)), below_row HM.out.bel.drew (Nat.le_refl _) _⟩
end Go.Proofs.Ytamfkglkgfggaaa
