/- A page's bytes, as the program lays them. -/
import Derived.Test.YtldkmkgkllgckaaDoorAdd
import Derived.Test.YtldkmkgkllgckaaDoorBMdl
set_option linter.unusedSimpArgs false
namespace Go.Proofs.YtldkmkgkllgckaaDoor
open Go.RowKit

section
variable {w : World} {g : Nat} {v : Value} {l : List Sl}
theorem bytes_nil (w : World) : Calls Tryd.prog 9 #[.pointer none] w fun e w' => e = .returned (.string ⟨#[]⟩) ∧ Below w.heap.size w w' := by
  go_enter Tryd.func9, Tryd.ntmps9
  go_wp2_with fail
  go_ret
  exact ⟨rfl, Below.refl _ _⟩
/-- Amid a loop: the bytes so far. -/
structure Bl (w wr : World) (v : Value) (bs : List Nat) : Prop where
  below : Below w.heap.size w wr
  row : ∃ p c, v = .slice p bs.length c ∧ wr.ownsRow w.heap.size 5 1 (.slice p bs.length c) bs.length (u8s bs)
set_option maxHeartbeats 1600000 in
theorem bytes_any (h : Pg0 w g v l) : Calls Tryd.prog 9 #[.pointer (some ⟨g, 0, none⟩)] w fun e w' => e = .returned (.string (bytesS l)) ∧ Below w.heap.size w w' := by
  have HP := Lib.hid h
  have HOK := Lib.hid h.ok
  obtain ⟨q, c, rfl⟩ := h.form
  have c0 := h.c0
  have hl := h.ok.len
  have hg := h.lt
  have HSZ : Hid (∀ i w1, i < l.length → Calls Tryd.prog 23 #[.agg #[.bool (slot l i).isSome, .string (recOf (slot l i))]] w1 fun e w' => e = .returned (.int .i64 (szc (slot l i) : Int)) ∧ Below w1.heap.size w1 w') := Lib.hid (fun i w1 hi => by
    have hs := h.ok.sz512 _ (slot_mem hi)
    refine (size_any (slot l i) w1 hs).mono ?_
    rintro e w' ⟨rfl, hb⟩
    refine ⟨?_, hb⟩
    unfold szc
    split <;> rename_i h1 <;> simp [h1])
  have HSL : Hid (∀ i, i < l.length → szc (slot l i) ≤ 513) := Lib.hid (fun i hi => szc_le (h.ok.sz512 _ (slot_mem hi)))
  have HL : Hid (∀ w1, Below w.heap.size w w1 → Calls Tryd.prog 24 #[.pointer (some ⟨g, 0, none⟩)] w1 fun e w' => e = .returned (.int .i64 (left l)) ∧ Below w1.heap.size w1 w') := Lib.hid (fun w1 hb => left_any (h.below hb))
  clear h
  obtain ⟨i0, hi, hz0, hz1, hz2⟩ := info_parts Tryd.info5
  have HI := Lib.hid hi
  have HZ0 := Lib.hid hz0
  have HZ1 := Lib.hid hz1
  have HZ2 := Lib.hid hz2
  clear hi hz0 hz1 hz2
  obtain ⟨N, HN⟩ : ∃ N, Hid (l.length = N) := ⟨_, Lib.hid rfl⟩
  rw [HN.out] at c0 hl
  go_enter Tryd.func9, Tryd.ntmps9
  go_upto_region 4 with fail
  have H0 : Hid (Bl w (w.alloc (.cells #[.int .u8 (N : Int)] 5)) (.slice (some ⟨w.heap.size, 0, none⟩) 1 1) ([N] ++ headM (l.take 0))) := Lib.hid ⟨(Below.refl _ _).alloc (Nat.le_refl _) _, _, _, rfl, World.ownsRow_lit w #[.int .u8 (N : Int)] 1 (Nat.le_refl _) (by decide) rfl⟩
  have c1 := (H0.out.below.cell (p := ⟨g, 0, none⟩) hg).trans c0
  generalize w.alloc (.cells #[.int .u8 (N : Int)] 5) = w0 at *
  go_wp2_with fail
  clear c1
  go_loopw [3, 23] (fun bv iv wr => ∃ i : Nat, i ≤ N ∧ iv = .int .i64 (i : Int) ∧ Hid (Bl w wr bv ([N] ++ headM (l.take i)))) (fun _ iv _ => N - (intOf iv).toNat)
  case atStart => exact ⟨0, Nat.zero_le _, by go_num, H0⟩
  case round =>
    obtain ⟨i, hi, rfl, hr⟩ := hrel
    clear H0
    have c1 := (hr.out.below.cell (p := ⟨g, 0, none⟩) hg).trans c0
    by_cases hlt : i < N
    · have hil : i < l.length := by rw [HN.out]; exact hlt
      obtain ⟨b, c', e, hc, a1, a2⟩ := HP.out.at hil
      rw [HN.out] at e hc
      cases e
      have x1 := (hr.out.below.cell (p := ⟨b, i * 2, none⟩) (World.block_lt_of_cell? w _ a1)).trans a1
      have x2 := (hr.out.below.cell (p := ⟨b, i * 2 + 1, none⟩) (World.block_lt_of_cell? w _ a2)).trans a2
      have HS1 := Lib.hid (HSZ.out i · hil)
      have hz := HSL.out i hil
      have HHD : Hid (headM (l.take (i + 1)) = headM (l.take i) ++ [szc (slot l i) / 256, szc (slot l i) % 256]) := Lib.hid (by rw [take_slot hil, headM_snoc])
      generalize (slot l i).isSome = bb at *
      generalize recOf (slot l i) = rr at *
      generalize szc (slot l i) = z at *
      have HU : Hid (u8s [z / 256, z % 256] = [.int .u8 ((z : Int) / 256), .int .u8 ((z : Int) % 256)]) := Lib.hid (by simp [u8s])
      have HO2 : Hid (∀ u ∈ [Value.int .u8 ((z : Int) / 256), .int .u8 ((z : Int) % 256)], u.oneCell' = true) := Lib.hid (by intro u hu; simp at hu; rcases hu with rfl | rfl <;> rfl)
      have HX : Hid (((w).heap.size ≤ wr.heap.size)) := Lib.hid hr.out.below.size
      obtain ⟨hbel, p3, c3, e3, hrow⟩ := hr.out
      have HLEN : Hid (([N] ++ headM (l.take i)).length = 1 + 2 * i) := Lib.hid (by rw [List.length_append, headM_len, List.length_take, HN.out, Nat.min_eq_left hi]; rfl)
      rw [HLEN.out] at e3 hrow
      subst e3
      have HROW := Lib.hid hrow
      have HBEL := Lib.hid hbel
      clear hr hbel hrow c1
      have H63 : Hid (1 + 2 * i + 2 ≤ maxLen) := Lib.hid (by unfold maxLen; omega)
      go_wp2_with (first
        | (go_at_call 23; refine (HS1.out _).mono ?_; rintro e w1 ⟨rfl, hb1⟩; have HB1 : Hid (Below wr.heap.size wr w1) := Lib.hid (((Below.refl _ _).alloc (Nat.le_refl _) _).trans (hb1.mono (by simp))); have HROW1 := Lib.hid ((own_below HROW.out HB1.out).alloc (.cells #[.int .u8 ((z : Int) / 256), .int .u8 ((z : Int) % 256)] 5)); have HBB := Lib.hid ((HBEL.out.trans (HB1.out.mono HX.out)).alloc (Nat.le_trans HX.out HB1.out.size) (.cells #[.int .u8 ((z : Int) / 256), .int .u8 ((z : Int) % 256)] 5)); clear hb1)
        | (at_builtin; refine wpList_append_own _ rfl (.tmp 29) (.tmp 35) 61 rfl w.heap.size 5 i0 (.int .u8 0) 1 1 Tryd.underlying61 HI.out HZ0.out HZ1.out HZ2.out rfl (by decide) (.slice p3 (1 + 2 * i) c3) (1 + 2 * i) _ (by rfl) HROW1.out ⟨w1.heap.size, 0, none⟩ 2 2 [.int .u8 ((z : Int) / 256), .int .u8 ((z : Int) % 256)] (by rfl) rfl (cell_two_new w1 _ _ _) HO2.out H63.out (by omega) HBB.out.size ?_; intro v2 w2 hown2 hgrow2 _))
      have HB2 := Lib.hid (HBB.out.grown hgrow2 HBB.out.size (fun k e => (HROW1.out.lt k e).1))
      have HLEN2 : Hid (([N] ++ headM (l.take (i + 1))).length = 1 + 2 * i + 2) := Lib.hid (by rw [HHD.out, ← List.append_assoc, List.length_append, HLEN.out]; rfl)
      have HR2 : Hid (Bl w w2 v2 ([N] ++ headM (l.take (i + 1)))) := Lib.hid (by
        obtain ⟨p4, c4, e4⟩ := own_form hown2
        subst e4
        refine ⟨HB2.out, p4, c4, by rw [HLEN2.out], ?_⟩
        rw [HLEN2.out, HHD.out, ← List.append_assoc, u8s_append, HU.out]
        exact hown2)
      clear hown2 hgrow2 HBB HROW1 HB2
      go_roundw
      case rel => exact ⟨i + 1, by omega, by go_num, HR2⟩
      case measure => simp [intOf]; omega
    · obtain rfl : i = N := by omega
      have H1 : Hid (Bl w wr u3 ([i] ++ headM l ++ recsM (l.take 0))) := Lib.hid (by
        have := hr.out
        rw [List.take_of_length_le (by rw [HN.out]; exact Nat.le_refl _)] at this
        simpa [recsM] using this)
      clear hr HSZ HSL
      go_wp2_with fail
      go_loopw [3, 43] (fun bv iv wr => ∃ k : Nat, k ≤ i ∧ iv = .int .i64 (k : Int) ∧ Hid (Bl w wr bv ([i] ++ headM l ++ recsM (l.take k)))) (fun _ iv _ => i - (intOf iv).toNat)
      case atStart => exact ⟨0, Nat.zero_le _, by go_num, H1⟩
      case round =>
        obtain ⟨k, hk, rfl, hr⟩ := hrel
        clear H1
        have HLEN : Hid (([i] ++ headM l ++ recsM (l.take k)).length = 1 + 2 * i + tot (l.take k)) := Lib.hid (by rw [List.length_append, List.length_append, headM_len, recsM_len, HN.out]; rfl)
        have htk : tot (l.take k) ≤ 512 := Nat.le_trans (tot_take_le l k) (tot_le HOK.out)
        obtain ⟨t, HT⟩ : ∃ t, Hid (tot (l.take k) = t) := ⟨_, Lib.hid rfl⟩
        rw [HT.out] at HLEN htk
        have c1 := (hr.out.below.cell (p := ⟨g, 0, none⟩) hg).trans c0
        obtain ⟨hbel, p3, c3, e3, hrow⟩ := hr.out
        rw [HLEN.out] at e3 hrow
        subst e3
        have HROW := Lib.hid hrow
        have HBEL := Lib.hid hbel
        have HX : Hid (w.heap.size ≤ wr.heap.size) := Lib.hid hbel.size
        clear hr hrow
        by_cases hlt : k < i
        · have hil : k < l.length := by rw [HN.out]; exact hlt
          obtain ⟨b, c', e, hc, a1, a2⟩ := HP.out.at hil
          rw [HN.out] at e hc
          cases e
          have x1 := (hbel.cell (p := ⟨b, k * 2, none⟩) (World.block_lt_of_cell? w _ a1)).trans a1
          have x2 := (hbel.cell (p := ⟨b, k * 2 + 1, none⟩) (World.block_lt_of_cell? w _ a2)).trans a2
          have HTT : Hid (recsM (l.take (k + 1)) = recsM (l.take k) ++ nums (recOf (slot l k))) := Lib.hid (by rw [take_slot hil, recsM_snoc])
          have hz : (recOf (slot l k)).size ≤ 480 := HOK.out.szs k
          generalize (slot l k).isSome = bb at *
          generalize recOf (slot l k) = rr at *
          have HROW1 := Lib.hid ((HROW.out.alloc (.cells #[.bool bb, .string rr] 56)))
          have HBB := Lib.hid (HBEL.out.alloc HX.out (.cells #[.bool bb, .string rr] 56))
          have H63 : Hid (1 + 2 * i + t + rr.size ≤ maxLen) := Lib.hid (by unfold maxLen; omega)
          clear hbel a1 a2 c1
          go_wp2_with (at_builtin; refine Lib.wpList_append_own_string _ rfl (.tmp 47) (.tmp 49) 61 9 rfl w.heap.size 5 i0 Tryd.underlying61 Tryd.underlying9 HI.out HZ0.out HZ1.out HZ2.out (.slice p3 (1 + 2 * i + t) c3) (1 + 2 * i + t) _ (by rfl) HROW1.out rr (by rfl) H63.out (by omega) HBB.out.size ?_; intro v2 w2 hown2 hgrow2 _)
          have HB2 := Lib.hid (HBB.out.grown hgrow2 HBB.out.size (fun k e => (HROW1.out.lt k e).1))
          have HLEN2 : Hid (([i] ++ headM l ++ recsM (l.take (k + 1))).length = 1 + 2 * i + t + rr.size) := Lib.hid (by rw [HTT.out, ← List.append_assoc, List.length_append, HLEN.out, nums_len])
          have HR2 : Hid (Bl w w2 v2 ([i] ++ headM l ++ recsM (l.take (k + 1)))) := Lib.hid (by
            obtain ⟨p4, c4, e4⟩ := own_form hown2
            subst e4
            refine ⟨HB2.out, p4, c4, by rw [HLEN2.out], ?_⟩
            rw [HLEN2.out, HTT.out, ← List.append_assoc, u8s_append, ← strCells_nums]
            exact hown2)
          clear hown2 hgrow2 HBB HROW1 HB2
          go_roundw
          case rel => exact ⟨k + 1, by omega, by go_num, HR2⟩
          case measure => simp [intOf]; omega
        · obtain rfl : k = i := by omega
          have HRT : Hid (recsM (l.take k) = recsM l ∧ tot l = t) := Lib.hid (by rw [← HT.out, List.take_of_length_le (by rw [HN.out]; exact Nat.le_refl _)]; exact ⟨rfl, rfl⟩)
          have HLF : Hid (left l = ((512 - need l : Nat) : Int) ∧ 1 + 2 * k + t + (512 - need l) = 512) := Lib.hid (by
            have h1 := HOK.out.need
            have h2 := HRT.out.2
            have h3 := HN.out
            unfold left need at *
            omega)
          have HLL := Lib.hid (HL.out wr HBEL.out)
          rw [HLF.out.1] at HLL
          obtain ⟨z, HZ⟩ : ∃ z, Hid (512 - need l = z) := ⟨_, Lib.hid rfl⟩
          rw [HZ.out] at HLL HLF
          obtain ⟨b3, c3', e3⟩ : ∃ b3 c3', (Value.slice p3 (1 + 2 * k + t) c3) = .slice (some ⟨b3, 0, none⟩) (1 + 2 * k + t) c3' := own_some HROW.out (by omega)
          cases e3
          clear hbel c1
          have HBYT : Hid (bytesM l = [k] ++ headM l ++ recsM l ++ List.replicate z 0) := Lib.hid (by unfold bytesM; rw [HN.out, HZ.out])
          have HU0 : Hid (u8s (List.replicate z 0) = List.replicate z (.int .u8 0)) := Lib.hid (by unfold u8s; rw [List.map_replicate]; rfl)
          have HLB : Hid ((bytesM l).length = 1 + 2 * k + t + z) := Lib.hid (by rw [bytesM_len HOK.out]; exact HLF.out.2.symm)
          have HDG := Lib.hid (bytesM_dig HOK.out)
          go_wp2_with (first
            | (go_at_call 24; refine HLL.out.mono ?_; rintro e w1 ⟨rfl, hb1⟩; obtain ⟨q5, c5, w5, hr5, hown5, hgrow5⟩ := run_append_own_zeros (P := Tryd.prog) w1 w.heap.size 61 3 61 5 i0 Tryd.underlying61 Tryd.underlying3 HI.out HZ0.out HZ1.out HZ2.out b3 (1 + 2 * k + t) c3 _ (own_below HROW.out hb1) z (by have := HLF.out.2; unfold maxLen; omega) (by have := HLF.out.2; omega) (Nat.le_trans HX.out hb1.size); have HR5 := Lib.hid hr5; have HBF := Lib.hid ((HBEL.out.trans (hb1.mono HX.out)).grown hgrow5 (Nat.le_trans HX.out hb1.size) (fun k e => (HROW.out.lt k e).1)); have hcv : (convert 61 9 (.slice q5 (1 + 2 * k + t + z) c5)).run Tryd.prog w5 = .ok (.string (strB (bytesM l))) w5 := (Bys.own (by rw [HBYT.out, ← HRT.out.1, u8s_append, HU0.out]; exact hown5) HDG.out).conv c5; clear hr5 hown5 hgrow5 hb1)
            | (at_builtin; refine Lib.wpList_append_run _ rfl (.tmp 52) (.tmp 54) 61 3 rfl _ _ (by rfl) (by rfl) (.slice q5 (1 + 2 * k + t + z) c5) w5 HR5.out ?_))
          go_ret
          exact ⟨rfl, HBF.out⟩
end
end Go.Proofs.YtldkmkgkllgckaaDoor
