/- The document's own: what Decode returns for a page of bytes. -/
import Derived.Test.YtamfkglkgfggaaaRDec
set_option linter.unusedSimpArgs false
namespace Go.Proofs.Ytamfkglkgfggaaa
open Go.RowKit
set_option maxRecDepth 100000 in
set_option maxHeartbeats 3200000 in
theorem rdec_page (p : Option Addr) (c : Nat) (bs : List Nat) (w : World) (hB : Bys w p 512 bs) (hc : 512 ≤ c) (hc2 : c ≤ 9223372036854775807) :
    Calls Try.prog 25 #[.slice p 512 c] w fun e w' => RDecR w' 512 bs e ∧ Below w.heap.size w w' := by
  obtain ⟨hz, -⟩ := zero_of_info (P := Try.prog) info48z
  have hl := hB.len
  have HE : Hid (dirE 512 bs = if okV (valB bs) 4 && allZ (bs.drop 80) 432 then 0 else 4) := Lib.hid (by unfold dirE; rw [if_neg (by decide)])
  have HOf := Lib.hid (ofE_dir hl hB.dig)
  obtain ⟨bb, o, rfl, hcell⟩ := hB.at (by omega)
  have HCL := Lib.hid hcell
  have HR := Lib.hid (Rd.start w (valB bs))
  have HVL : Hid (∀ j, valB bs j < 4294967296) := Lib.hid fun j => by
    have := hB.getD (4 * j); have := hB.getD (4 * j + 1); have := hB.getD (4 * j + 2); have := hB.getD (4 * j + 3)
    unfold valB; omega
  have KI : Hid (∀ F, (Try.prog.info? 48).map (·.size) = some (rowA F 4).size) := Lib.hid fun F => by rw [size48z, rowA_size]
  have KX := Lib.hid (KI.out fun _ => 0)
  have KONE : Hid (∀ F, (rowA F 4).all (·.oneCell') = true) := Lib.hid fun F => rowA_one _ _
  have KZ : Hid (∀ F, (rowA (fun _ => 0) 4).size = (rowA F 4).size) := Lib.hid fun F => by rw [rowA_size, rowA_size]
  have HRF : Hid (dirE 512 bs = 4 → ∀ w', RDecR w' 512 bs (.returned (.tuple #[.agg (rowA (fun _ => 0) 4), .slice none 0 0, .int .i64 4]))) := Lib.hid fun h w' => .inr ⟨by rw [h]; decide, by rw [h]⟩
  have HBY := Lib.hid hB
  have HCC := Lib.hid (And.intro hc hc2)
  have hcz : (512 : Int) ≤ (c : Int) := by omega
  have hcz2 : (c : Int) ≤ 9223372036854775807 := by omega
  clear hl hB hcell hc2
  generalize hZZ : rowA (fun _ => 0) 4 = Z at *
  have HZZ := Lib.hid hZZ
  clear hZZ
  go_enter Try.func25, Try.ntmps25
  go_upto_region 2 with fail
  generalize World.alloc (World.alloc (World.alloc _ _) _) _ = W at *
  have hV' : ∃ V, V = valB bs := ⟨_, rfl⟩
  obtain ⟨V, hV⟩ := hV'
  rw [← hV] at HE HVL HR
  have HV := Lib.hid hV
  clear hV
  go_upto_region 7 with fail
  go_loopw [7] (fun kv wr => ∃ k : Nat, k ≤ 4 ∧ kv = .int .i64 (k : Int) ∧ Rd w wr V k ∧ ∀ j, j < k → pgN (V j) = true) (fun kv _ => 4 - (intOf kv).toNat)
  case atStart => exact ⟨0, by omega, by go_num, HR.out, fun j hj => absurd hj (Nat.not_lt_zero j)⟩
  case round =>
    obtain ⟨k, hk, rfl, hr, hok⟩ := hrel
    have HR1 := Lib.hid hr
    have HOK := Lib.hid hok
    clear hr HR hok
    by_cases hlt : k < 4
    · have he : decide ((k : Int) < 4) = true := decide_eq_true (by omega)
      have he' : decide (k < 4) = true := decide_eq_true hlt
      have hkz : (k : Int) < 4 := by omega
      have HL := Lib.hid hlt
      have HVA := Lib.hid (val_any (some ⟨bb, o, none⟩) 512 c bs k wr (HBY.out.below HR1.out.bel) (by omega) (by omega))
      rw [← HV.out] at HVA
      have HPG := Lib.hid (rpage_any ((V k : Nat) : Int))
      clear hk
      go_upto_region 10 with (go_at_call 37; refine HVA.out.mono ?_; rintro e w7 ⟨rfl, hb7⟩; have HR7 := Lib.hid (HR1.out.below hb7); have hcx := HR7.out.new.cell k HL.out; have hfx := HR7.out.new.free k; clear hb7)
      have HN : Hid (Rd w (w7.setCell ⟨w.heap.size + 1 + 1, k, none⟩ (.int .i64 ((V k : Nat) : Int))) V (k + 1)) := Lib.hid
        ⟨HR7.out.out.other (by show w.heap.size ≠ w.heap.size + 2; omega) _, HR7.out.none.other (by show w.heap.size + 1 ≠ w.heap.size + 2; omega) _, (HR7.out.new.put _ _).ext fun l _ => over_one V k l,
          HR7.out.bel.setCell (p := ⟨w.heap.size + 2, k, none⟩) (by show w.heap.size ≤ w.heap.size + 2; omega) _⟩
      generalize w7.setCell _ _ = w8 at *
      have hc8 : w8.cell? ⟨w.heap.size + 1 + 1, k, none⟩ = some (.int .i64 ((V k : Nat) : Int)) := by
        have h := HN.out.new.cell k HL.out
        rwa [over_last] at h
      cases hpg : pgN (V k) with
      | true =>
        have HG : Hid ((((V k : Nat) : Int) = 0) ∨ pgI ((V k : Nat) : Int) = true) := Lib.hid (by
          unfold pgN at hpg; unfold pgI; simp at hpg ⊢; omega)
        have HO : Hid (∀ j, j < k + 1 → pgN (V j) = true) := Lib.hid fun j hj => by
          by_cases e : j = k
          · rw [e]; exact hpg
          · exact HOK.out j (by omega)
        clear hpg
        by_cases h0 : ((V k : Nat) : Int) = 0
        · have hb0 : (((V k : Nat) : Int) != 0) = false := by simp [h0]
          rw [h0] at hb0 hc8
          rw [h0]
          go_wp2_with fail
          go_roundw
          case rel => exact ⟨k + 1, by have := HL.out; omega, by go_num, HN.out, HO.out⟩
          case measure => have := HL.out; simp [intOf]; omega
        · have hb0 : (((V k : Nat) : Int) != 0) = true := by simpa using h0
          have HG2 := HG.out.resolve_left h0
          rw [HG2] at HPG
          clear HG2 HG h0
          generalize V k = v at *
          go_wp2_with (go_at_call 38; refine (HPG.out _).mono ?_; rintro e w9 ⟨rfl, rfl⟩)
          go_roundw
          case rel => exact ⟨k + 1, by have := HL.out; omega, by go_num, HN.out, HO.out⟩
          case measure => have := HL.out; simp [intOf]; omega
      | false =>
        have HG : Hid ((((V k : Nat) : Int) != 0) = true ∧ pgI ((V k : Nat) : Int) = false) := Lib.hid (by
          unfold pgN at hpg; unfold pgI; simp at hpg ⊢; omega)
        have hb0 := HG.out.1
        rw [HG.out.2] at HPG
        have HOV : Hid (okV V 4 = false) := Lib.hid (decide_eq_false fun h => by
          have := h k HL.out
          rw [hpg] at this; cases this)
        have HXR : Hid (w8.heap[w.heap.size + 1]? = some (.cells Z 48 (0, 0))) := Lib.hid (by have h := HN.out.none; unfold IsT at h; rwa [HZZ.out] at h)
        have HUR : Hid (w8.heap[w.heap.size]? = some (.cells Z 48 (0, 0))) := Lib.hid (by have h := HN.out.out; unfold IsT at h; rwa [HZZ.out] at h)
        have HON : Hid (Z.all (·.oneCell') = true) := Lib.hid (by have := KONE.out fun _ => 0; rwa [HZZ.out] at this)
        clear hpg HG
        generalize V k = v at *
        go_wp2_with (first
          | (go_at_call 38; refine (HPG.out _).mono ?_; rintro e w9 ⟨rfl, rfl⟩)
          | (refine wpList_load_row rfl 48 (.tmp 5) rfl (w.heap.size + 1) rfl 48 Z (0, 0) _ HXR.out Try.underlying48 rfl KX.out ?_)
          | (refine wpList_store_row rfl 48 (.tmp 2) (.tmp 40) rfl w.heap.size Z rfl rfl 48 Z HUR.out KX.out rfl HON.out ?_))
        refine bodyPost_ret (results_row_tmps Try.results25 _ _ w.heap.size 48 Z (0, 0) _ rfl (setRow_heap _ _ _ _ _ _ HUR.out) Try.underlying48 rfl KX.out) rfl ?_
        exact ⟨HRF.out (by rw [HE.out, HOV.out]; rfl) _, below_row HN.out.bel (Nat.le_refl _) _⟩
    · have he : decide ((k : Int) < 4) = false := decide_eq_false (by omega)
      have he' : decide (k < 4) = false := decide_eq_false hlt
      have HK : Hid (k = 4) := Lib.hid (by omega)
      have HOV : Hid (okV V 4 = true) := Lib.hid (decide_eq_true fun j hj => HOK.out j (by have := HK.out; omega))
      have HNR : Hid (wr.heap[w.heap.size + 1 + 1]? = some (.cells (rowA (over (fun _ => 0) 0 V 0 4) 4) 48 (0, 0))) := Lib.hid (by have h := HR1.out.new; rw [HK.out] at h; exact h)
      have HXR : Hid (wr.heap[w.heap.size + 1]? = some (.cells Z 48 (0, 0))) := Lib.hid (by have h := HR1.out.none; unfold IsT at h; rwa [HZZ.out] at h)
      have HUR : Hid (wr.heap[w.heap.size]? = some (.cells Z 48 (0, 0))) := Lib.hid (by have h := HR1.out.out; unfold IsT at h; rwa [HZZ.out] at h)
      have HBW := Lib.hid HR1.out.bel
      have HON : Hid (Z.all (·.oneCell') = true) := Lib.hid (by have := KONE.out fun _ => 0; rwa [HZZ.out] at this)
      have hyy : rowA (over (fun _ => 0) 0 V 0 4) 4 = rowA V 4 := rowA_ext fun i hi => over_all V 4 i hi
      rw [hyy] at HNR
      clear hlt hk HR1 HOK hyy
      go_upto_region 13 with fail
      go_loop [8] (fun iv => ∃ i : Nat, 80 ≤ i ∧ i ≤ 512 ∧ iv = .int .i64 (i : Int) ∧ ∀ j, 80 ≤ j → j < i → bs.getD j 0 = 0) (fun iv => 512 - (intOf iv).toNat)
      case atStart => exact ⟨80, by omega, by omega, by go_num, fun j hj hj2 => by omega⟩
      case round =>
        obtain ⟨i, hi, hi2, rfl, hz⟩ := hrel
        have HZ := Lib.hid hz
        clear hz
        have hcw : i < 512 → wr.cell? ⟨bb, o + i, none⟩ = some (.int .u8 (bs.getD i 0 : Int)) := by
          obtain ⟨b1, o1, e1, h1⟩ := (HBY.out.below HBW.out).at (by omega)
          cases e1
          exact h1 i
        by_cases hlt : i < 512
        · have he : decide ((i : Int) < 512) = true := decide_eq_true (by omega)
          have he' : decide (i < 512) = true := decide_eq_true hlt
          have hcell := hcw hlt
          have hiz : (i : Int) < 512 := by omega
          have HL := Lib.hid (And.intro hlt hi)
          clear hi2 hcw hi
          by_cases h0 : bs.getD i 0 = 0
          · rw [h0] at hcell
            have HN : Hid (∀ j, 80 ≤ j → j < i + 1 → bs.getD j 0 = 0) := Lib.hid fun j hj hj2 => by
              by_cases e : j = i
              · rw [e]; exact h0
              · exact HZ.out j hj (by omega)
            clear h0
            go_wp2_with fail
            go_round
            case rel => exact ⟨i + 1, by have := HL.out; omega, by have := HL.out; omega, by go_num, HN.out⟩
            case measure => have := HL.out; simp [intOf]; omega
          · have HA : Hid (allZ (bs.drop 80) 432 = false) := Lib.hid (decide_eq_false fun h => h0 (by
              have := h (i - 80) (by have := HL.out; omega)
              rwa [drop_getD, show 80 + (i - 80) = i by have := HL.out; omega] at this))
            have hne : (((bs.getD i 0 : Nat) : Int) != 0) = true := by simpa using h0
            clear h0
            generalize bs.getD i 0 = y at *
            go_wp2_with (first
              | (refine wpList_load_row rfl 48 (.tmp 5) rfl (w.heap.size + 1) rfl 48 Z (0, 0) _ HXR.out Try.underlying48 rfl KX.out ?_)
              | (refine wpList_store_row rfl 48 (.tmp 2) (.tmp 50) rfl w.heap.size Z rfl rfl 48 Z HUR.out KX.out rfl HON.out ?_))
            refine bodyPost_ret (results_row_tmps Try.results25 _ _ w.heap.size 48 Z (0, 0) _ rfl (setRow_heap _ _ _ _ _ _ HUR.out) Try.underlying48 rfl KX.out) rfl ?_
            exact ⟨HRF.out (by rw [HE.out, HOV.out, HA.out]; rfl) _, below_row HBW.out (Nat.le_refl _) _⟩
        · have he : decide ((i : Int) < 512) = false := decide_eq_false (by omega)
          have he' : decide (i < 512) = false := decide_eq_false hlt
          have HI : Hid (i = 512) := Lib.hid (by omega)
          have HA : Hid (allZ (bs.drop 80) 432 = true) := Lib.hid (decide_eq_true fun j hj => by
            rw [drop_getD]; exact HZ.out _ (by omega) (by have := HI.out; omega))
          have HE0 : Hid (dirE 512 bs = 0) := Lib.hid (by rw [HE.out, HOV.out, HA.out]; rfl)
          have hOfc := rof_any 512 (some ⟨bb, o + 16, none⟩) 64 (c - 16) (dsB bs) wr (((HBY.out.below HBW.out).drop (k := 16) (j := 496) (by omega)).take (k := 64) (by omega))
          rw [HOf.out] at hOfc
          have HOfc := Lib.hid hOfc
          have HOZ : Hid (ofE 512 (dsB bs) ≠ 0 → False) := Lib.hid (fun h => h HOf.out)
          clear hOfc hcw hi hi2 hlt
          have KN : Hid (Z.size = (rowA V 4).size ∧ (rowA V 4).all (·.oneCell') = true) := Lib.hid ⟨KZ.out V, KONE.out V⟩
          have KIN := Lib.hid (KI.out V)
          have HRV : Hid (∀ w' p' c', Bls w' p' 512 (trs (dsB bs)) → RDecR w' 512 bs (.returned (.tuple #[.agg (rowA V 4), .slice p' 512 c', .int .i64 0]))) := Lib.hid fun w' p' c' h => .inl ⟨HE0.out, p', c', by rw [HV.out], h⟩
          generalize rowA V 4 = Y at *
          go_upto_region 18 with (go_at_call 50; refine HOfc.out.mono ?_; rintro e w9 ⟨⟨v, rfl, hr⟩, hb9⟩; replace hr := hr.resolve_right (fun q => HOZ.out q.1); obtain ⟨-, pp, pc, rfl, hbl, hfr⟩ := hr; have HBL := Lib.hid hbl; have HFR := Lib.hid hfr; have HB9 := Lib.hid hb9; clear hbl hfr hb9)
          have HNR9 : Hid (w9.heap[w.heap.size + 1 + 1]? = some (.cells Y 48 (0, 0))) := Lib.hid ((HB9.out.block _ (lt_of_block HNR.out)).trans HNR.out)
          have HUR9 : Hid (w9.heap[w.heap.size]? = some (.cells Z 48 (0, 0))) := Lib.hid ((HB9.out.block _ (lt_of_block HUR.out)).trans HUR.out)
          go_wp2_with (first
            | (refine wpList_load_row rfl 48 (.tmp 6) rfl (w.heap.size + 1 + 1) rfl 48 Y (0, 0) _ HNR9.out Try.underlying48 rfl KIN.out ?_)
            | (refine wpList_store_row rfl 48 (.tmp 2) (.tmp 57) rfl w.heap.size Y rfl rfl 48 Z HUR9.out KIN.out KN.out.1 KN.out.2 ?_))
          refine bodyPost_ret (results_row_tmps Try.results25 _ _ w.heap.size 48 Y (0, 0) _ rfl (setRow_heap _ _ _ _ _ _ HUR9.out) Try.underlying48 rfl KIN.out) rfl ?_
          exact ⟨HRV.out _ _ _ (HBL.out.keep fun k hk b1 o1 e1 hkb => setRow_other _ _ _ _ (by have := HFR.out b1 o1 e1; have := lt_of_block HUR.out; omega)), below_row (HBW.out.trans (HB9.out.mono HBW.out.size)) (Nat.le_refl _) _⟩
theorem rdec_any (p : Option Addr) (n c : Nat) (bs : List Nat) (w : World) (hB : Bys w p n bs) (hn : n ≤ 1099511627776) (hnc : n ≤ c) (hc2 : c ≤ 9223372036854775807) :
    Calls Try.prog 25 #[.slice p n c] w fun e w' => RDecR w' n bs e ∧ Below w.heap.size w w' := by
  by_cases h : wholeE n = 0
  · have h2 := wholeE_zero h
    subst h2
    exact rdec_page p c bs w hB hnc hc2
  · exact rdec_len p n c bs w hn h
end Go.Proofs.Ytamfkglkgfggaaa
