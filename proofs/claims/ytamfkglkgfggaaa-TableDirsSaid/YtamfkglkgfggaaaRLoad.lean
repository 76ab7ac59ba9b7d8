/- The document's own: bytes loaded into a row. -/
import Derived.Test.YtamfkglkgfggaaaRefL
set_option linter.unusedSimpArgs false
namespace Go.Proofs.Ytamfkglkgfggaaa
open Go.RowKit

set_option maxRecDepth 100000 in
set_option maxHeartbeats 1600000 in
theorem rload_out (f : Nat → Nat) (x : Int) (p : Option Addr) (n c : Nat) (w : World) (hx : ¬ (0 ≤ x ∧ x < 4)) :
    Calls Try.prog 15 #[.agg (rowA f 512), .int .i64 x, .slice p n c] w fun e w' => e = .returned (.tuple #[.agg (rowA f 512), .int .i64 7]) ∧ Below w.heap.size w w' := by
  obtain ⟨hz, -⟩ := zero_of_info (P := Try.prog) info25
  have HI : Hid (IsT ((w.alloc (.cells (rowA f 512) 25)).alloc (.cells (rowA (fun _ => 0) 512) 25)) w.heap.size 25 f 512) := Lib.hid (heap_alloc2_old w _ _)
  have HU : Hid (IsT ((w.alloc (.cells (rowA f 512) 25)).alloc (.cells (rowA (fun _ => 0) 512) 25)) (w.heap.size + 1) 25 (fun _ => 0) 512) := Lib.hid (heap_alloc2_new w _ _)
  have HB : Hid (Below w.heap.size w ((w.alloc (.cells (rowA f 512) 25)).alloc (.cells (rowA (fun _ => 0) 512) 25))) := Lib.hid (((Below.refl _ _).alloc (Nat.le_refl _) _).alloc (by simp) _)
  have KI : Hid (∀ F, (Try.prog.info? 25).map (·.size) = some (rowA F 512).size) := Lib.hid fun F => by rw [size25, rowA_size]
  have K1 : Hid ((rowA (fun _ => 0) 512).size = (rowA f 512).size ∧ (rowA f 512).all (·.oneCell') = true) := Lib.hid ⟨by rw [rowA_size, rowA_size], rowA_one _ _⟩
  have KX := Lib.hid (KI.out f)
  have HXR : Hid (((w.alloc (.cells (rowA f 512) 25)).alloc (.cells (rowA (fun _ => 0) 512) 25)).heap[w.heap.size]? = some (.cells (rowA f 512) 25 (0, 0))) := Lib.hid HI.out
  have HUR : Hid (((w.alloc (.cells (rowA f 512) 25)).alloc (.cells (rowA (fun _ => 0) 512) 25)).heap[w.heap.size + 1]? = some (.cells (rowA (fun _ => 0) 512) 25 (0, 0))) := Lib.hid HU.out
  generalize rowA f 512 = X at *
  generalize rowA (fun _ => 0) 512 = Z at *
  go_enter Try.func15, Try.ntmps15
  go_upto_region 1 with fail
  generalize World.alloc (World.alloc _ _) _ = W at *
  by_cases h0 : x < 0
  · have hd : decide (x < 0) = true := decide_eq_true h0
    clear hx
    go_upto_region 2 with fail
    go_wp2_with (first
      | (refine wpList_load_row rfl 25 (.tmp 3) rfl w.heap.size rfl 25 X (0, 0) _ HXR.out Try.underlying25 rfl KX.out ?_)
      | (refine wpList_store_row rfl 25 (.tmp 6) (.tmp 17) rfl (w.heap.size + 1) X rfl rfl 25 Z HUR.out KX.out K1.out.1 K1.out.2 ?_))
    refine bodyPost_ret (results_row_tmp Try.results15 _ _ (w.heap.size + 1) 25 X (0, 0) _ rfl (setRow_heap _ _ _ _ _ _ HUR.out) Try.underlying25 rfl KX.out) rfl ?_
    exact ⟨rfl, below_row HB.out (by omega) _⟩
  · have hd : decide (x < 0) = false := decide_eq_false h0
    have hd2 : decide (x > 3) = true := decide_eq_true (by omega)
    have hd3 : decide ((3 : Int) < x) = true := decide_eq_true (by omega)
    clear hx
    go_upto_region 2 with fail
    go_wp2_with (first
      | (refine wpList_load_row rfl 25 (.tmp 3) rfl w.heap.size rfl 25 X (0, 0) _ HXR.out Try.underlying25 rfl KX.out ?_)
      | (refine wpList_store_row rfl 25 (.tmp 6) (.tmp 17) rfl (w.heap.size + 1) X rfl rfl 25 Z HUR.out KX.out K1.out.1 K1.out.2 ?_))
    refine bodyPost_ret (results_row_tmp Try.results15 _ _ (w.heap.size + 1) 25 X (0, 0) _ rfl (setRow_heap _ _ _ _ _ _ HUR.out) Try.underlying25 rfl KX.out) rfl ?_
    exact ⟨rfl, below_row HB.out (by omega) _⟩
set_option maxRecDepth 100000 in
set_option maxHeartbeats 1600000 in
theorem rload_len (f : Nat → Nat) (i : Nat) (p : Option Addr) (n c : Nat) (w : World) (hi : i < 4) (hn : n ≤ 1099511627776) (hw : wholeE n ≠ 0) :
    Calls Try.prog 15 #[.agg (rowA f 512), .int .i64 (i : Int), .slice p n c] w fun e w' => e = .returned (.tuple #[.agg (rowA f 512), .int .i64 (wholeE n)]) ∧ Below w.heap.size w w' := by
  obtain ⟨hz, -⟩ := zero_of_info (P := Try.prog) info25
  have HI : Hid (IsT ((w.alloc (.cells (rowA f 512) 25)).alloc (.cells (rowA (fun _ => 0) 512) 25)) w.heap.size 25 f 512) := Lib.hid (heap_alloc2_old w _ _)
  have HU : Hid (IsT ((w.alloc (.cells (rowA f 512) 25)).alloc (.cells (rowA (fun _ => 0) 512) 25)) (w.heap.size + 1) 25 (fun _ => 0) 512) := Lib.hid (heap_alloc2_new w _ _)
  have HB : Hid (Below w.heap.size w ((w.alloc (.cells (rowA f 512) 25)).alloc (.cells (rowA (fun _ => 0) 512) 25))) := Lib.hid (((Below.refl _ _).alloc (Nat.le_refl _) _).alloc (by simp) _)
  have KI : Hid (∀ F, (Try.prog.info? 25).map (·.size) = some (rowA F 512).size) := Lib.hid fun F => by rw [size25, rowA_size]
  have K1 : Hid ((rowA (fun _ => 0) 512).size = (rowA f 512).size ∧ (rowA f 512).all (·.oneCell') = true) := Lib.hid ⟨by rw [rowA_size, rowA_size], rowA_one _ _⟩
  have KX := Lib.hid (KI.out f)
  have hd : decide ((i : Int) < 0) = false := decide_eq_false (by omega)
  have hd2 : decide ((i : Int) > 3) = false := decide_eq_false (by omega)
  have hd3 : decide ((3 : Int) < (i : Int)) = false := decide_eq_false (by omega)
  have hnz : (n : Int) ≤ 1099511627776 := by omega
  have HXR : Hid (((w.alloc (.cells (rowA f 512) 25)).alloc (.cells (rowA (fun _ => 0) 512) 25)).heap[w.heap.size]? = some (.cells (rowA f 512) 25 (0, 0))) := Lib.hid HI.out
  have HUR : Hid (((w.alloc (.cells (rowA f 512) 25)).alloc (.cells (rowA (fun _ => 0) 512) 25)).heap[w.heap.size + 1]? = some (.cells (rowA (fun _ => 0) 512) 25 (0, 0))) := Lib.hid HU.out
  generalize rowA f 512 = X at *
  generalize rowA (fun _ => 0) 512 = Z at *
  go_enter Try.func15, Try.ntmps15
  go_upto_region 1 with fail
  generalize World.alloc (World.alloc _ _) _ = W at *
  by_cases h : n < 512
  · have he : decide ((n : Int) < 512) = true := decide_eq_true (by omega)
    have he' : decide (n < 512) = true := decide_eq_true h
    have HWE : Hid (wholeE n = 3) := Lib.hid (if_pos h)
    clear hw h hn hi
    go_upto_region 4 with fail
    go_wp2_with (first
      | (refine wpList_load_row rfl 25 (.tmp 3) rfl w.heap.size rfl 25 X (0, 0) _ HXR.out Try.underlying25 rfl KX.out ?_)
      | (refine wpList_store_row rfl 25 (.tmp 6) (.tmp 21) rfl (w.heap.size + 1) X rfl rfl 25 Z HUR.out KX.out K1.out.1 K1.out.2 ?_))
    refine bodyPost_ret (results_row_tmp Try.results15 _ _ (w.heap.size + 1) 25 X (0, 0) _ rfl (setRow_heap _ _ _ _ _ _ HUR.out) Try.underlying25 rfl KX.out) rfl ?_
    exact ⟨by rw [HWE.out]; rfl, below_row HB.out (by omega) _⟩
  · have he : decide ((n : Int) < 512) = false := decide_eq_false (by omega)
    have he' : decide (n < 512) = false := decide_eq_false h
    have h2 : 512 < n := by
      unfold wholeE at hw
      rw [if_neg h] at hw
      by_cases h2 : 512 < n
      · exact h2
      · rw [if_neg h2] at hw; exact absurd rfl hw
    have he2 : decide ((512 : Int) < (n : Int)) = true := decide_eq_true (by omega)
    have he2' : decide (512 < n) = true := decide_eq_true h2
    have HWE : Hid (wholeE n = 2) := Lib.hid (by unfold wholeE; rw [if_neg h, if_pos h2])
    clear hw h h2 hn hi
    go_upto_region 6 with fail
    go_wp2_with (first
      | (refine wpList_load_row rfl 25 (.tmp 3) rfl w.heap.size rfl 25 X (0, 0) _ HXR.out Try.underlying25 rfl KX.out ?_)
      | (refine wpList_store_row rfl 25 (.tmp 6) (.tmp 25) rfl (w.heap.size + 1) X rfl rfl 25 Z HUR.out KX.out K1.out.1 K1.out.2 ?_))
    refine bodyPost_ret (results_row_tmp Try.results15 _ _ (w.heap.size + 1) 25 X (0, 0) _ rfl (setRow_heap _ _ _ _ _ _ HUR.out) Try.underlying25 rfl KX.out) rfl ?_
    exact ⟨by rw [HWE.out]; rfl, below_row HB.out (by omega) _⟩
/-- Amid the loop. -/
structure Rl (w wr : World) (f : Nat → Nat) (i : Nat) (V : Nat → Nat) (k : Nat) : Prop where
  row : IsT wr w.heap.size 25 f 512
  out : IsT wr (w.heap.size + 1) 25 (fun _ => 0) 512
  new : IsT wr (w.heap.size + 2) 25 (over f (128 * i) V 0 k) 512
  bel : Below w.heap.size w wr
  ok : ∀ j, j < k → pgN (V j) = true
theorem over_snoc (f : Nat → Nat) (o : Nat) (V : Nat → Nat) (k l : Nat) : updN (over f o V 0 k) (o + k) (V k) l = over f o V 0 (k + 1) l := by
  unfold updN over
  by_cases h : l = o + k
  · subst h; rw [if_pos rfl, if_pos (by omega), show 0 + (o + k - o) = k by omega]
  · rw [if_neg h]
    by_cases h2 : o ≤ l ∧ l < o + k
    · rw [if_pos h2, if_pos (by omega)]
    · rw [if_neg h2, if_neg (by omega)]
set_option maxRecDepth 100000 in
set_option maxHeartbeats 1600000 in
theorem rload_in (f : Nat → Nat) (i : Nat) (p : Option Addr) (c : Nat) (bs : List Nat) (w : World) (hi : i < 4) (hB : Bys w p 512 bs) :
    Calls Try.prog 15 #[.agg (rowA f 512), .int .i64 (i : Int), .slice p 512 c] w fun e w' => e = .returned (.tuple #[.agg (rowA (loadF f (i : Int) bs) 512), .int .i64 (loadE (i : Int) bs)]) ∧ Below w.heap.size w w' := by
  obtain ⟨hz, -⟩ := zero_of_info (P := Try.prog) info25
  have HI : Hid (IsT ((w.alloc (.cells (rowA f 512) 25)).alloc (.cells (rowA (fun _ => 0) 512) 25)) w.heap.size 25 f 512) := Lib.hid (heap_alloc2_old w _ _)
  have HU : Hid (IsT ((w.alloc (.cells (rowA f 512) 25)).alloc (.cells (rowA (fun _ => 0) 512) 25)) (w.heap.size + 1) 25 (fun _ => 0) 512) := Lib.hid (heap_alloc2_new w _ _)
  have HB : Hid (Below w.heap.size w ((w.alloc (.cells (rowA f 512) 25)).alloc (.cells (rowA (fun _ => 0) 512) 25))) := Lib.hid (((Below.refl _ _).alloc (Nat.le_refl _) _).alloc (by simp) _)
  have KI : Hid (∀ F, (Try.prog.info? 25).map (·.size) = some (rowA F 512).size) := Lib.hid fun F => by rw [size25, rowA_size]
  have K1 : Hid ((rowA (fun _ => 0) 512).size = (rowA f 512).size ∧ (rowA f 512).all (·.oneCell') = true) := Lib.hid ⟨by rw [rowA_size, rowA_size], rowA_one _ _⟩
  have KX := Lib.hid (KI.out f)
  have hl := hB.len
  have HE : Hid (loadE (i : Int) bs = if okV (valB bs) 128 then 0 else 4) := Lib.hid (by
    unfold loadE
    rw [if_neg (not_not_intro ⟨by omega, by omega⟩), hl, if_neg (by decide)])
  have HF : Hid (loadF f (i : Int) bs = if okV (valB bs) 128 = true then over f (128 * i) (valB bs) 0 128 else f) := Lib.hid (by
    unfold loadF
    rw [HE.out, Int.toNat_natCast]
    cases okV (valB bs) 128 <;> rfl)
  have hd : decide ((i : Int) < 0) = false := decide_eq_false (by omega)
  have hd2 : decide ((i : Int) > 3) = false := decide_eq_false (by omega)
  have hd3 : decide ((3 : Int) < (i : Int)) = false := decide_eq_false (by omega)
  have hiz : (i : Int) < 4 := by omega
  have HBY := Lib.hid hB
  have HVL : Hid (∀ j, valB bs j < 4294967296) := Lib.hid fun j => by
    have := hB.getD (4 * j); have := hB.getD (4 * j + 1); have := hB.getD (4 * j + 2); have := hB.getD (4 * j + 3)
    unfold valB; omega
  have HLT := Lib.hid hi
  clear hl hB hi
  have HXR : Hid (((w.alloc (.cells (rowA f 512) 25)).alloc (.cells (rowA (fun _ => 0) 512) 25)).heap[w.heap.size]? = some (.cells (rowA f 512) 25 (0, 0))) := Lib.hid HI.out
  have HSZ : Hid (((w.alloc (.cells (rowA f 512) 25)).alloc (.cells (rowA (fun _ => 0) 512) 25)).heap.size = w.heap.size + 2) := Lib.hid (by simp)
  generalize hXX : rowA f 512 = X at *
  have HXX := Lib.hid hXX
  generalize hZZ : rowA (fun _ => 0) 512 = Z at *
  have HZZ := Lib.hid hZZ
  clear hXX hZZ
  go_enter Try.func15, Try.ntmps15
  go_upto_region 1 with fail
  generalize World.alloc (World.alloc _ _) _ = W at *
  have HRL : Hid (Rl w ((W.alloc (.cells Z 25)).setRow W.heap.size X) f i (valB bs) 0) := Lib.hid (by
    rw [World.setRow_alloc_new]
    have hb := (Below.refl W.heap.size W).alloc (Nat.le_refl _) (.cells X 25)
    refine ⟨HI.out.below hb, HU.out.below hb, ?_, HB.out.alloc HB.out.size _, fun j hj => absurd hj (Nat.not_lt_zero j)⟩
    have h3 := heap_alloc_new W (.cells X 25)
    rw [HSZ.out, ← HXX.out] at h3
    have h4 : IsT (W.alloc (.cells (rowA f 512) 25)) (w.heap.size + 2) 25 f 512 := h3
    rw [← HXX.out]
    exact h4.ext fun l _ => (over_out f _ _ _ _ _ (by omega)).symm)
  go_upto_region 8 with (first
    | (refine wpList_load_row rfl 25 (.tmp 3) rfl w.heap.size rfl 25 X (0, 0) _ HXR.out Try.underlying25 rfl KX.out ?_)
    | (refine wpList_store_row rfl 25 (.tmp 8) (.tmp 26) rfl W.heap.size X rfl rfl 25 Z (heap_alloc_new _ _) KX.out K1.out.1 K1.out.2 ?_))
  generalize World.setRow _ _ _ = W2 at *
  rw [HSZ.out]
  clear HI HU HB HXR
  generalize hV : valB bs = V at *
  have HV := Lib.hid hV
  clear hV
  go_wp2_with fail
  go_loopw [9] (fun kv wr => ∃ k : Nat, k ≤ 128 ∧ kv = .int .i64 (k : Int) ∧ Rl w wr f i V k) (fun kv _ => 128 - (intOf kv).toNat)
  case atStart => exact ⟨0, by omega, by go_num, HRL.out⟩
  case round =>
    obtain ⟨k, hk, rfl, hr⟩ := hrel
    have HR := Lib.hid hr
    clear hr HRL
    by_cases hlt : k < 128
    · have he : decide ((k : Int) < 128) = true := decide_eq_true (by omega)
      have hkz : (k : Int) < 128 := by omega
      have HL := Lib.hid hlt
      have HVA := Lib.hid (val_any p 512 c bs k wr (HBY.out.below HR.out.bel) (by omega) (by omega))
      rw [HV.out] at HVA
      have hvz : ((V k : Nat) : Int) < 4294967296 := by have := HVL.out k; omega
      have hvz0 : (0 : Int) ≤ ((V k : Nat) : Int) := Int.natCast_nonneg _
      have HPG := Lib.hid (rpage_any ((V k : Nat) : Int))
      have hcat : Hid (∀ wc, Below wr.heap.size wr wc → Rl w wc f i V k) := Lib.hid fun wc hb =>
        ⟨HR.out.row.below hb, HR.out.out.below hb, HR.out.new.below hb, HR.out.bel.trans (hb.mono HR.out.bel.size), HR.out.ok⟩
      have hix : (128 * (i : Int) + (k : Int)).toNat = 128 * i + k := by omega
      have hz2 : 128 * (i : Int) + (k : Int) < 512 := by omega
      have hz3 : (0 : Int) ≤ 128 * (i : Int) + (k : Int) := by omega
      clear hlt hk
      go_upto_region 12 with (go_at_call 37; refine HVA.out.mono ?_; rintro e w7 ⟨rfl, hb7⟩)
      have HR7 := Lib.hid (hcat.out w7 hb7)
      clear hb7 hcat HVA
      cases hpg : pgN (V k) with
      | true =>
        have HG : Hid ((((V k : Nat) : Int) = 0) ∨ pgI ((V k : Nat) : Int) = true) := Lib.hid (by
          unfold pgN at hpg; unfold pgI; simp at hpg ⊢; omega)
        have hcx := HR7.out.new.cell (128 * i + k) (by have := HLT.out; have := HL.out; omega)
        have hfx := HR7.out.new.free (128 * i + k)
        have HN : Hid (Rl w (w7.setCell ⟨w.heap.size + 2, 128 * i + k, none⟩ (.int .i64 ((V k : Nat) : Int))) f i V (k + 1)) := Lib.hid
          ⟨HR7.out.row.other (by show w.heap.size ≠ w.heap.size + 2; omega) _, HR7.out.out.other (by show w.heap.size + 1 ≠ w.heap.size + 2; omega) _, (HR7.out.new.put _ _).ext fun l _ => over_snoc f (128 * i) V k l,
            HR7.out.bel.setCell (p := ⟨w.heap.size + 2, 128 * i + k, none⟩) (by show w.heap.size ≤ w.heap.size + 2; omega) _, fun j hj => by
              by_cases e : j = k
              · rw [e]; exact hpg
              · exact HR7.out.ok j (by omega)⟩
        generalize over f (128 * i) V 0 k (128 * i + k) = y at *
        clear hpg
        by_cases h0 : ((V k : Nat) : Int) = 0
        · have hb0 : (((V k : Nat) : Int) != 0) = false := by simp [h0]
          rw [h0] at HN hb0
          rw [h0]
          go_wp2_with fail
          go_roundw
          case rel => exact ⟨k + 1, by have := HL.out; omega, by go_num, HN.out⟩
          case measure => have := HL.out; simp [intOf]; omega
        · have hb0 : (((V k : Nat) : Int) != 0) = true := by simpa using h0
          have HG2 := HG.out.resolve_left h0
          rw [HG2] at HPG
          clear HG2 HG h0
          generalize V k = v at *
          go_wp2_with (go_at_call 38; refine (HPG.out _).mono ?_; rintro e w9 ⟨rfl, rfl⟩)
          go_roundw
          case rel => exact ⟨k + 1, by have := HL.out; omega, by go_num, HN.out⟩
          case measure => have := HL.out; simp [intOf]; omega
      | false =>
        have HG : Hid ((((V k : Nat) : Int) != 0) = true ∧ pgI ((V k : Nat) : Int) = false) := Lib.hid (by
          unfold pgN at hpg; unfold pgI; simp at hpg ⊢; omega)
        have hb0 := HG.out.1
        rw [HG.out.2] at HPG
        have HOV : Hid (okV V 128 = false) := Lib.hid (decide_eq_false fun h => by
          have := h k HL.out
          rw [hpg] at this; cases this)
        have HXR7 : Hid (w7.heap[w.heap.size]? = some (.cells X 25 (0, 0))) := Lib.hid (by have h := HR7.out.row; unfold IsT at h; rwa [HXX.out] at h)
        have HUR7 : Hid (w7.heap[w.heap.size + 1]? = some (.cells Z 25 (0, 0))) := Lib.hid (by have h := HR7.out.out; unfold IsT at h; rwa [HZZ.out] at h)
        clear hpg HG
        generalize V k = v at *
        go_wp2_with (first
          | (go_at_call 38; refine (HPG.out _).mono ?_; rintro e w9 ⟨rfl, rfl⟩)
          | (refine wpList_load_row rfl 25 (.tmp 3) rfl w.heap.size rfl 25 X (0, 0) _ HXR7.out Try.underlying25 rfl KX.out ?_)
          | (refine wpList_store_row rfl 25 (.tmp 6) (.tmp 42) rfl (w.heap.size + 1) X rfl rfl 25 Z HUR7.out KX.out K1.out.1 K1.out.2 ?_))
        refine bodyPost_ret (results_row_tmp Try.results15 _ _ (w.heap.size + 1) 25 X (0, 0) _ rfl (setRow_heap _ _ _ _ _ _ HUR7.out) Try.underlying25 rfl KX.out) rfl ?_
        rw [HE.out, HF.out, HOV.out, if_neg (by decide), HXX.out]
        exact ⟨rfl, below_row HR7.out.bel (by omega) _⟩
    · have he : decide ((k : Int) < 128) = false := decide_eq_false (by omega)
      have HK : Hid (k = 128) := Lib.hid (by omega)
      have HOV : Hid (okV V 128 = true) := Lib.hid (decide_eq_true fun j hj => HR.out.ok j (by have := HK.out; omega))
      have HNR : Hid (wr.heap[w.heap.size + 2]? = some (.cells (rowA (over f (128 * i) V 0 128) 512) 25 (0, 0))) := Lib.hid (by have h := HR.out.new; rw [HK.out] at h; exact h)
      have HUR7 : Hid (wr.heap[w.heap.size + 1]? = some (.cells Z 25 (0, 0))) := Lib.hid (by have h := HR.out.out; unfold IsT at h; rwa [HZZ.out] at h)
      have KN : Hid (Z.size = (rowA (over f (128 * i) V 0 128) 512).size ∧ (rowA (over f (128 * i) V 0 128) 512).all (·.oneCell') = true) := Lib.hid ⟨by rw [← HZZ.out, rowA_size, rowA_size], rowA_one _ _⟩
      have KIN := Lib.hid (KI.out (over f (128 * i) V 0 128))
      clear hlt hk
      generalize hYY : rowA (over f (128 * i) V 0 128) 512 = Y at *
      have HYY := Lib.hid hYY
      clear hYY
      go_wp2_with (first
        | (refine wpList_load_row rfl 25 (.tmp 8) rfl (w.heap.size + 2) rfl 25 Y (0, 0) _ HNR.out Try.underlying25 rfl KIN.out ?_)
        | (refine wpList_store_row rfl 25 (.tmp 6) (.tmp 49) rfl (w.heap.size + 1) Y rfl rfl 25 Z HUR7.out KIN.out KN.out.1 KN.out.2 ?_))
      refine bodyPost_ret (results_row_tmp Try.results15 _ _ (w.heap.size + 1) 25 Y (0, 0) _ rfl (setRow_heap _ _ _ _ _ _ HUR7.out) Try.underlying25 rfl KIN.out) rfl ?_
      rw [HE.out, HF.out, HOV.out, if_pos rfl, if_pos rfl, HYY.out]
      exact ⟨rfl, below_row HR.out.bel (by omega) _⟩
theorem rload_any (f : Nat → Nat) (x : Int) (p : Option Addr) (n c : Nat) (bs : List Nat) (w : World) (hB : Bys w p n bs) (hn : n ≤ 1099511627776) :
    Calls Try.prog 15 #[.agg (rowA f 512), .int .i64 x, .slice p n c] w fun e w' => e = .returned (.tuple #[.agg (rowA (loadF f x bs) 512), .int .i64 (loadE x bs)]) ∧ Below w.heap.size w w' := by
  by_cases hx : 0 ≤ x ∧ x < 4
  · obtain ⟨i, rfl⟩ := Int.eq_ofNat_of_zero_le hx.1
    by_cases hw : wholeE n = 0
    · have h2 := wholeE_zero hw
      subst h2
      exact rload_in f i p c bs w (by omega) hB
    · have h1 : loadE (i : Int) bs = wholeE n := by
        unfold loadE; rw [hB.len, if_neg (not_not_intro hx), if_pos hw]
      unfold loadF
      rw [h1, if_neg hw]
      exact rload_len f i p n c w (by omega) hn hw
  · have h1 : loadE x bs = 7 := by unfold loadE; rw [if_pos hx]
    unfold loadF
    rw [h1, if_neg (by decide)]
    exact rload_out f x p n c w hx
end Go.Proofs.Ytamfkglkgfggaaa
