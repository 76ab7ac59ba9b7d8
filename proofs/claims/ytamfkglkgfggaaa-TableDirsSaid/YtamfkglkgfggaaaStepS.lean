/- A step that tells a page. -/
import Derived.Test.YtamfkglkgfggaaaStep0
set_option linter.unusedSimpArgs false
namespace Go.Proofs.Ytamfkglkgfggaaa
open Go.RowKit

set_option maxRecDepth 100000 in
set_option maxHeartbeats 1600000 in
theorem step_set {w : World} {g : Nat} {f : Nat → Nat} (h : Tab w g f) (l v : Nat) (hl : l < 512) (hv : pgI (v : Int) = true) :
    Calls Try.prog 29 #[.pointer (some ⟨g, 0, none⟩), .agg (rowA f 512), .agg #[.int .i64 0, .int .i64 (l : Int), .int .i64 (v : Int)]] w fun e w' =>
      e = .returned (.tuple #[.agg (rowA (updN f l v) 512), .bool true]) ∧ Tab w' g (updN f l v) ∧ Only g w w' := by
  obtain ⟨hz, -⟩ := zero_of_info (P := Try.prog) info25
  have HE := Lib.hid (ent_made h 0 (l : Int) (v : Int))
  have HB0 := Lib.hid h.lt
  have KI : Hid (∀ F, (Try.prog.info? 25).map (·.size) = some (rowA F 512).size) := Lib.hid fun F => by rw [size25, rowA_size]
  clear h
  have hd1 : decide ((l : Int) ≥ 0) = true := decide_eq_true (by omega)
  have hd1' : decide ((0 : Int) ≤ (l : Int)) = true := decide_eq_true (by omega)
  have hd2 : decide ((l : Int) < 512) = true := decide_eq_true (by omega)
  have hlz : (l : Int) < 512 := by omega
  have HV := Lib.hid (rpage_any (v : Int))
  rw [hv] at HV
  have HL := Lib.hid hl
  have HPV := Lib.hid hv
  clear hl hv
  generalize hXX : rowA f 512 = X at *
  have HXX := Lib.hid hXX
  generalize hZZ : rowA (fun _ => 0) 512 = Z at *
  have HZZ := Lib.hid hZZ
  clear hXX hZZ
  go_enter Try.func29, Try.ntmps29
  go_upto_region 1 with fail
  generalize World.alloc (World.alloc (World.alloc _ _) _) _ = W at *
  have hc0 := HE.out.ck
  have hc1 := HE.out.ss.cl
  have hc2 := HE.out.cp
  have HSet := Lib.hid (set_in HE.out.tab l v HL.out HPV.out)
  go_upto_region 5 with (go_at_call 33; refine HSet.out.mono ?_; rintro e w7 ⟨rfl, hT7, ho7⟩)
  have HT7 := Lib.hid hT7
  have HO7 := Lib.hid ho7
  have HS7 := Lib.hid (HE.out.ss.only ho7 HE.out.lt)
  have hcx := HS7.out.row.cell l HL.out
  have hfx := HS7.out.row.free l
  have hc1' := HS7.out.cl
  have hc2' : w7.cell? ⟨w.heap.size + 1, 2, none⟩ = some (.int .i64 (v : Int)) := (World.cell?_of_block (ho7.block (w.heap.size + 1) (World.block_lt_of_cell? W _ hc2) (by have := HE.out.lt; omega))).trans hc2
  have HR8 : Hid (IsT (w7.setCell ⟨w.heap.size, l, none⟩ (.int .i64 (v : Int))) w.heap.size 25 (updN f l v) 512) := Lib.hid (HS7.out.row.put l v)
  have HU8 : Hid (IsT (w7.setCell ⟨w.heap.size, l, none⟩ (.int .i64 (v : Int))) (w.heap.size + 2) 25 (fun _ => 0) 512) := Lib.hid (HS7.out.out.other (by show w.heap.size + 2 ≠ w.heap.size; omega) _)
  have HD8 : Hid (Only g w (w7.setCell ⟨w.heap.size, l, none⟩ (.int .i64 (v : Int)))) := Lib.hid (((Only.of_below HE.out.bel).trans HO7.out).then ((Below.refl w.heap.size w7).setCell (p := ⟨w.heap.size, l, none⟩) (Nat.le_refl _) _) (Nat.le_refl _))
  have HW8 : Hid (Below w.heap.size w7 (w7.setCell ⟨w.heap.size, l, none⟩ (.int .i64 (v : Int)))) := Lib.hid ((Below.refl w.heap.size w7).setCell (p := ⟨w.heap.size, l, none⟩) (Nat.le_refl _) _)
  clear hT7 ho7 hc0 hc1 hc2
  generalize f l = y at *
  go_upto_region 8 with (go_at_call 38; refine (HV.out _).mono ?_; rintro e w9 ⟨rfl, rfl⟩)
  generalize w7.setCell ⟨w.heap.size, l, none⟩ (.int .i64 (v : Int)) = w8 at *
  go_wp2_with (first
    | (refine wpList_load_row rfl 25 (.tmp 4) rfl w.heap.size rfl 25 (rowA (updN f l v) 512) (0, 0) _ HR8.out Try.underlying25 rfl (KI.out _) ?_)
    | (refine wpList_store_row rfl 25 (.tmp 6) (.tmp 48) rfl (w.heap.size + 2) (rowA (updN f l v) 512) rfl rfl 25 (rowA (fun _ => 0) 512) HU8.out (KI.out _) (by rw [rowA_size, rowA_size]) (rowA_one _ _) ?_))
  have HWR : Hid (Below w.heap.size w7 (w8.setRow (w.heap.size + 2) (rowA (updN f l v) 512))) := Lib.hid (below_row HW8.out (by omega) _)
  refine bodyPost_ret (results_row_tmp Try.results29 _ _ (w.heap.size + 2) 25 (rowA (updN f l v) 512) (0, 0) _ rfl (HU8.out.overRow _) Try.underlying25 rfl (KI.out _)) rfl ?_
  exact ⟨rfl, HT7.out.same (HWR.out.block g HB0.out), HD8.out.then (below_row (Below.refl w.heap.size w8) (by omega) _) (Nat.le_refl _)⟩
set_option maxRecDepth 100000 in
set_option maxHeartbeats 1600000 in
theorem step_not {w : World} {g : Nat} {f : Nat → Nat} (h : Tab w g f) (L P : Int) (hx : ¬ ((0 ≤ L ∧ L < 512) ∧ pgI P = true)) :
    Calls Try.prog 29 #[.pointer (some ⟨g, 0, none⟩), .agg (rowA f 512), .agg #[.int .i64 0, .int .i64 L, .int .i64 P]] w fun e w' =>
      e = .returned (.tuple #[.agg (rowA f 512), .bool true]) ∧ Tab w' g f ∧ Only g w w' := by
  obtain ⟨hz, -⟩ := zero_of_info (P := Try.prog) info25
  have HE := Lib.hid (ent_made h 0 L P)
  have HB0 := Lib.hid h.lt
  have KI : Hid (∀ F, (Try.prog.info? 25).map (·.size) = some (rowA F 512).size) := Lib.hid fun F => by rw [size25, rowA_size]
  clear h
  have HV := Lib.hid (rpage_any P)
  have HX := Lib.hid hx
  have HF2 : Hid (f = f) := Lib.hid rfl
  have KR : Hid ((rowA (fun _ => 0) 512).size = (rowA f 512).size ∧ (rowA f 512).all (·.oneCell') = true) := Lib.hid ⟨by rw [rowA_size, rowA_size], rowA_one _ _⟩
  have KX := Lib.hid (KI.out f)
  clear hx
  generalize hXX : rowA f 512 = X at *
  have HXX := Lib.hid hXX
  generalize hZZ : rowA (fun _ => 0) 512 = Z at *
  have HZZ := Lib.hid hZZ
  clear hXX hZZ
  go_enter Try.func29, Try.ntmps29
  go_upto_region 1 with fail
  generalize World.alloc (World.alloc (World.alloc _ _) _) _ = W at *
  have hc0 := HE.out.ck
  have hc1 := HE.out.ss.cl
  have hc2 := HE.out.cp
  have HSet := Lib.hid (set_out g L P W HX.out)
  have HXR : Hid (W.heap[w.heap.size]? = some (.cells X 25 (0, 0))) := Lib.hid (by have h := HE.out.ss.row; unfold IsT at h; rwa [HXX.out] at h)
  have HUR : Hid (W.heap[w.heap.size + 2]? = some (.cells Z 25 (0, 0))) := Lib.hid (by have h := HE.out.ss.out; unfold IsT at h; rwa [HZZ.out] at h)
  have KZ : Hid (Try.prog.info? 25 = Try.prog.info? 25) := Lib.hid rfl
  by_cases h0 : 0 ≤ L
  · have hd1 : decide (L ≥ 0) = true := decide_eq_true h0
    have hd1' : decide ((0 : Int) ≤ L) = true := decide_eq_true h0
    by_cases h1 : L < 512
    · have hd2 : decide (L < 512) = true := decide_eq_true h1
      have hp : pgI P = false := by simpa using fun e => HX.out ⟨⟨h0, h1⟩, e⟩
      rw [hp] at HV
      clear hp
      go_upto_region 6 with (first
        | (go_at_call 33; refine HSet.out.mono ?_; rintro e w7 ⟨rfl, rfl⟩)
        | (go_at_call 38; refine (HV.out _).mono ?_; rintro e w9 ⟨rfl, rfl⟩))
      go_wp2_with (first
        | (refine wpList_load_row rfl 25 (.tmp 4) rfl w.heap.size rfl 25 X (0, 0) _ HXR.out Try.underlying25 rfl KX.out ?_)
        | (refine wpList_store_row rfl 25 (.tmp 6) (.tmp 40) rfl (w.heap.size + 2) X rfl rfl 25 Z HUR.out KX.out KR.out.1 KR.out.2 ?_))
      refine bodyPost_ret (results_row_tmp Try.results29 _ _ (w.heap.size + 2) 25 X (0, 0) _ rfl (setRow_heap _ _ _ _ _ _ HUR.out) Try.underlying25 rfl KX.out) rfl ?_
      exact ⟨rfl, HE.out.tab.same ((below_row (Below.refl w.heap.size W) (by omega) _).block g HB0.out), (Only.of_below HE.out.bel).then (below_row (Below.refl w.heap.size W) (by omega) _) (Nat.le_refl _)⟩
    · have hd2 : decide (L < 512) = false := decide_eq_false h1
      go_upto_region 6 with (first
        | (go_at_call 33; refine HSet.out.mono ?_; rintro e w7 ⟨rfl, rfl⟩)
        | (go_at_call 38; refine (HV.out _).mono ?_; rintro e w9 ⟨rfl, rfl⟩))
      go_wp2_with (first
        | (refine wpList_load_row rfl 25 (.tmp 4) rfl w.heap.size rfl 25 X (0, 0) _ HXR.out Try.underlying25 rfl KX.out ?_)
        | (refine wpList_store_row rfl 25 (.tmp 6) (.tmp 40) rfl (w.heap.size + 2) X rfl rfl 25 Z HUR.out KX.out KR.out.1 KR.out.2 ?_))
      refine bodyPost_ret (results_row_tmp Try.results29 _ _ (w.heap.size + 2) 25 X (0, 0) _ rfl (setRow_heap _ _ _ _ _ _ HUR.out) Try.underlying25 rfl KX.out) rfl ?_
      exact ⟨rfl, HE.out.tab.same ((below_row (Below.refl w.heap.size W) (by omega) _).block g HB0.out), (Only.of_below HE.out.bel).then (below_row (Below.refl w.heap.size W) (by omega) _) (Nat.le_refl _)⟩
  · have hd1 : decide (L ≥ 0) = false := decide_eq_false h0
    have hd1' : decide ((0 : Int) ≤ L) = false := decide_eq_false h0
    go_upto_region 6 with (first
      | (go_at_call 33; refine HSet.out.mono ?_; rintro e w7 ⟨rfl, rfl⟩)
      | (go_at_call 38; refine (HV.out _).mono ?_; rintro e w9 ⟨rfl, rfl⟩))
    go_wp2_with (first
      | (refine wpList_load_row rfl 25 (.tmp 4) rfl w.heap.size rfl 25 X (0, 0) _ HXR.out Try.underlying25 rfl KX.out ?_)
      | (refine wpList_store_row rfl 25 (.tmp 6) (.tmp 40) rfl (w.heap.size + 2) X rfl rfl 25 Z HUR.out KX.out KR.out.1 KR.out.2 ?_))
    refine bodyPost_ret (results_row_tmp Try.results29 _ _ (w.heap.size + 2) 25 X (0, 0) _ rfl (setRow_heap _ _ _ _ _ _ HUR.out) Try.underlying25 rfl KX.out) rfl ?_
    exact ⟨rfl, HE.out.tab.same ((below_row (Below.refl w.heap.size W) (by omega) _).block g HB0.out), (Only.of_below HE.out.bel).then (below_row (Below.refl w.heap.size W) (by omega) _) (Nat.le_refl _)⟩
end Go.Proofs.Ytamfkglkgfggaaa
