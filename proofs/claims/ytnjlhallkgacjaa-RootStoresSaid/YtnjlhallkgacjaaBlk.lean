/- What the document's block returns. -/
import Derived.Test.YtnjlhallkgacjaaNum5
import Derived.Laws.IdiomStrings
import Derived.Deep.RegionHeld3
import Derived.Test.YtnjlhallkgacjaaIn
namespace Go.Proofs.Ytnjlhallkgacjaa
open Go.RowKit

/-- The bytes of a block's beginning, and zeros. -/
def headZ (r : Rt) (j : Nat) : List Nat := be 8 r.ep.toNat ++ (nameB ++ (be 4 r.pg.toNat ++ (be 4 r.dr.toNat ++ (be 4 r.wd.toNat ++ List.replicate j 0))))
theorem headZ_len (r : Rt) (j : Nat) : (headZ r j).length = 24 + j := by unfold headZ nameB; simp [be_len]; omega
theorem headZ_succ (r : Rt) (j : Nat) : headZ r (j + 1) = headZ r j ++ [0] := by
  unfold headZ
  rw [List.replicate_succ']
  simp only [List.append_assoc]
theorem headZ_dig (r : Rt) (j : Nat) : ∀ x ∈ headZ r j, x < 256 :=
  dig_app (be_dig _ _) (dig_app (by unfold nameB; decide) (dig_app (be_dig _ _) (dig_app (be_dig _ _) (dig_app (be_dig _ _) (dig_zeros j)))))
def strLen : Value → Nat
  | .string S => S.size
  | _ => 0
theorem strB_cat (a b : List Nat) : strB a ++ strB b = strB (a ++ b) := (strB_app a b).symm
theorem name_str : (⟨#[72, 73, 66, 82]⟩ : ByteArray) = strB nameB := by decide +kernel
theorem zero_str : (⟨#[0]⟩ : ByteArray) = strB [0] := by decide +kernel
theorem strB_get' (bs : List Nat) (k : Nat) (hk : k < bs.length) : (strB bs).data[k]? = some (UInt8.ofNat (bs.getD k 0)) := by
  have h := strB_list bs
  rw [← Array.getElem?_toList, h, List.getD_eq_getElem?_getD]
  simp [hk]
/-- What '[]byte(s)' lays reads as the bytes. -/
theorem bytes_bys (w : World) (s : List Nat) (cap : Nat) (hd : ∀ d ∈ s, d < 256) (fr : Nat × Nat) :
    Bys (w.alloc (.cells (bytesRow (strB s) cap) 5 fr)) (some ⟨w.heap.size, 0, none⟩) s.length s := by
  refine ⟨rfl, hd, fun _ => ⟨w.heap.size, 0, rfl, fun i hi => ?_⟩⟩
  rw [cell_of_row _ _ _ _ _ _ (heap_alloc_new w _), Nat.zero_add]
  unfold bytesRow
  have hsz : ((strB s).data.map (fun b => Value.int .u8 (b.toNat : Int))).size = s.length := by
    rw [Array.size_map]; exact strB_size' s
  rw [Array.getElem?_append_left (by rw [hsz]; exact hi), Array.getElem?_map, strB_get' s i hi]
  have h3 := getD_lt hd i
  simp only [Option.map_some]
  rw [UInt8.toNat_ofNat_of_lt' h3]
set_option maxHeartbeats 1600000 in
theorem block_any (r : Rt) (w : World) (h : Mays r) :
    Calls Try.prog 18 #[r.val] w fun e w' => e = .returned (.string (strB (block r))) ∧ Below w.heap.size w w' := by
  have HY := Lib.hid h
  have q0 := h.e0
  have q1 := h.e1
  obtain ⟨en, hen⟩ := Int.eq_ofNat_of_zero_le (show 0 ≤ r.ep by omega)
  obtain ⟨pn, hpn⟩ := Int.eq_ofNat_of_zero_le (show 0 ≤ r.pg by have := HY.out.p0; omega)
  obtain ⟨dn, hdn⟩ := Int.eq_ofNat_of_zero_le (show 0 ≤ r.dr by have := HY.out.d0; omega)
  obtain ⟨wn, hwn⟩ := Int.eq_ofNat_of_zero_le (show 0 ≤ r.wd by have := HY.out.w0; omega)
  have bp := h.p1
  have bd := h.d1
  have bw := h.w1
  have HR0 := Lib.hid (RtAt.new w r 23)
  have HB0 : Hid (Below w.heap.size w (w.alloc (.cells #[.int .i64 r.ep, .int .i64 r.pg, .int .i64 r.dr, .int .i64 r.wd] 23))) := Lib.hid ((Below.refl _ _).alloc (Nat.le_refl _) _)
  have HN : Hid (∀ (n : Nat) (k : Nat), n ≤ 4611686018427387904 → k ≤ 8 → ∀ w, Calls Try.prog 31 #[.int .i64 (n : Int), .int .i64 (k : Int)] w fun e w' => e = .returned (.string (strB (be k n))) ∧ Below w.heap.size w w') := Lib.hid (fun n k h1 h2 w => number_any5 n k w h1 h2)
  obtain ⟨ep, pg, dr, wd⟩ := r
  simp only at hen hpn hdn hwn q0 q1 bp bd bw HR0 HB0
  subst hen hpn hdn hwn
  unfold Rt.val
  clear h
  have N8 : Hid (∀ w, Calls Try.prog 31 #[.int .i64 (en : Int), .int .i64 8] w fun e w' => e = .returned (.string (strB (be 8 en))) ∧ Below w.heap.size w w') := Lib.hid (HN.out en 8 (by omega) (by omega))
  have NP : Hid (∀ w, Calls Try.prog 31 #[.int .i64 (pn : Int), .int .i64 4] w fun e w' => e = .returned (.string (strB (be 4 pn))) ∧ Below w.heap.size w w') := Lib.hid (HN.out pn 4 (by omega) (by omega))
  have ND : Hid (∀ w, Calls Try.prog 31 #[.int .i64 (dn : Int), .int .i64 4] w fun e w' => e = .returned (.string (strB (be 4 dn))) ∧ Below w.heap.size w w') := Lib.hid (HN.out dn 4 (by omega) (by omega))
  have NW : Hid (∀ w, Calls Try.prog 31 #[.int .i64 (wn : Int), .int .i64 4] w fun e w' => e = .returned (.string (strB (be 4 wn))) ∧ Below w.heap.size w w') := Lib.hid (HN.out wn 4 (by omega) (by omega))
  clear HN
  have z1 : (strB (be 8 en)).size = 8 := by rw [strB_size', be_len]
  have z2 : (strB (be 4 pn)).size = 4 := by rw [strB_size', be_len]
  have z3 : (strB (be 4 dn)).size = 4 := by rw [strB_size', be_len]
  have z4 : (strB (be 4 wn)).size = 4 := by rw [strB_size', be_len]
  have HS0 : Hid (strB (be 8 en) ++ ⟨#[72, 73, 66, 82]⟩ ++ strB (be 4 pn) ++ strB (be 4 dn) ++ strB (be 4 wn) = strB (headZ ⟨(en : Int), (pn : Int), (dn : Int), (wn : Int)⟩ 0)) := Lib.hid (by
    rw [name_str, strB_cat, strB_cat, strB_cat, strB_cat]
    unfold headZ
    simp only [List.append_assoc, List.replicate_zero, List.append_nil, Int.toNat_natCast])
  obtain ⟨E8, HE8⟩ : ∃ E8, Hid (strB (be 8 en) = E8) := ⟨_, Lib.hid rfl⟩
  rw [HE8.out] at N8 HS0 z1
  generalize strB (be 4 pn) = P4 at *
  generalize strB (be 4 dn) = D4 at *
  generalize strB (be 4 wn) = W4 at *
  go_enter Try.func18, Try.ntmps18
  go_wp2_with fail
  have r0 := HR0.out.c0
  have r1 := HR0.out.c1
  have r2 := HR0.out.c2
  have r3 := HR0.out.c3
  simp only at r0 r1 r2 r3
  generalize w.alloc (.cells #[.int .i64 (en : Int), .int .i64 (pn : Int), .int .i64 (dn : Int), .int .i64 (wn : Int)] 23) = w1 at *
  have l0 : ∀ s : In w1, s.1.cell? ⟨w.heap.size, 0, none⟩ = some (.int .i64 (en : Int)) := fun s => (HR0.out.below s.2).c0
  have l1 : ∀ s : In w1, s.1.cell? ⟨w.heap.size, 1, none⟩ = some (.int .i64 (pn : Int)) := fun s => (HR0.out.below s.2).c1
  have l2 : ∀ s : In w1, s.1.cell? ⟨w.heap.size, 2, none⟩ = some (.int .i64 (dn : Int)) := fun s => (HR0.out.below s.2).c2
  have l3 : ∀ s : In w1, s.1.cell? ⟨w.heap.size, 3, none⟩ = some (.int .i64 (wn : Int)) := fun s => (HR0.out.below s.2).c3
  have hne := In.some w1
  clear r0 r1 r2 r3
  have y1 : (⟨#[72, 73, 66, 82]⟩ : ByteArray).size = 4 := rfl
  have x1 : (E8 ++ ⟨#[72, 73, 66, 82]⟩).size = 12 := by rw [ByteArray.size_append, z1]; rfl
  have x2 : (E8 ++ ⟨#[72, 73, 66, 82]⟩ ++ P4).size = 16 := by rw [ByteArray.size_append, x1, z2]
  have x3 : (E8 ++ ⟨#[72, 73, 66, 82]⟩ ++ P4 ++ D4).size = 20 := by rw [ByteArray.size_append, x2, z3]
  refine region_in w1 (by kernel_rfl) (by kernel_rfl) (Below.refl _ _) ?_
  repeat (go_big_quiet_step (fail))
  go_big_quiet_step ((go_at_call 31; exact Calls.quiet_in (N8.out _)))
  repeat (go_big_quiet_step (fail))
  go_big_quiet_step ((go_at_call 31; exact Calls.quiet_in (NP.out _)))
  repeat (go_big_quiet_step (fail))
  go_big_quiet_step ((go_at_call 31; exact Calls.quiet_in (ND.out _)))
  repeat (go_big_quiet_step (fail))
  go_big_quiet_step ((go_at_call 31; exact Calls.quiet_in (NW.out _)))
  repeat (go_big_quiet_step (fail))
  refine wpQuiet_nil ?_
  intro w2 hw'
  have hb2 : Below w1.heap.size w1 w2 := by
    obtain ⟨⟨wz, hbz⟩, hw''⟩ := hw'
    subst hw''
    exact hbz
  have HR2 := Lib.hid (HR0.out.below hb2)
  have HB2 := Lib.hid (HB0.out.trans (Below.mono hb2 HB0.out.size))
  clear hw' l0 l1 l2 l3 hne hb2 HR0 HB0 x1 x2 x3 y1
  rw [HS0.out]
  go_wp2_with fail
  clear HS0 NP ND NW z2 z3 z4
  have HL := Lib.hid (headZ_len ⟨(en : Int), (pn : Int), (dn : Int), (wn : Int)⟩)
  have HSC := Lib.hid (headZ_succ ⟨(en : Int), (pn : Int), (dn : Int), (wn : Int)⟩)
  go_loop [3] (fun sv => ∃ j : Nat, j ≤ 92 ∧ sv = .string (strB (headZ ⟨(en : Int), (pn : Int), (dn : Int), (wn : Int)⟩ j))) (fun sv => 116 - strLen sv)
  case atStart => exact ⟨0, by omega, rfl⟩
  case round =>
    obtain ⟨j, hj, rfl⟩ := hrel
    have hz : (strB (headZ ⟨(en : Int), (pn : Int), (dn : Int), (wn : Int)⟩ j)).size = 24 + j := by rw [strB_size', HL.out]
    by_cases hlt : j < 92
    · have HNX : Hid (strB (headZ ⟨(en : Int), (pn : Int), (dn : Int), (wn : Int)⟩ j) ++ ⟨#[0]⟩ = strB (headZ ⟨(en : Int), (pn : Int), (dn : Int), (wn : Int)⟩ (j + 1))) := Lib.hid (by rw [HSC.out, zero_str, strB_cat])
      have hz2 : (strB (headZ ⟨(en : Int), (pn : Int), (dn : Int), (wn : Int)⟩ (j + 1))).size = 24 + (j + 1) := by rw [strB_size', HL.out]
      have hlt2 : ((strB (headZ ⟨(en : Int), (pn : Int), (dn : Int), (wn : Int)⟩ j)).size : Int) < 116 := by rw [hz]; omega
      have y0 : (⟨#[0]⟩ : ByteArray).size = 1 := rfl
      obtain ⟨A, hA⟩ : ∃ A, strB (headZ ⟨(en : Int), (pn : Int), (dn : Int), (wn : Int)⟩ j) = A := ⟨_, rfl⟩
      rw [hA] at hz hlt2 HNX ⊢
      clear hA HL HSC
      have hs1 : ¬ 9223372036854775807 < A.size + (⟨#[0]⟩ : ByteArray).size := by rw [y0, hz]; omega
      have HZ := Lib.hid hz
      clear y0 hz
      go_wp2_with fail
      go_round
      case rel => exact ⟨j + 1, by omega, by rw [← HNX.out]⟩
      case measure => simp only [strLen]; rw [HNX.out, hz2, HZ.out]; omega
    · obtain rfl : j = 92 := by omega
      clear HSC HL hlt hj
      obtain ⟨B, hBB⟩ : ∃ B, body ⟨(en : Int), (pn : Int), (dn : Int), (wn : Int)⟩ = B := ⟨_, rfl⟩
      have hH : headZ ⟨(en : Int), (pn : Int), (dn : Int), (wn : Int)⟩ 92 = B := hBB
      have hd := body_dig ⟨(en : Int), (pn : Int), (dn : Int), (wn : Int)⟩
      have hBL := body_len ⟨(en : Int), (pn : Int), (dn : Int), (wn : Int)⟩
      have HBK : Hid (strB (B ++ tailOf (more 0 B)) ++ E8 = strB (block ⟨(en : Int), (pn : Int), (dn : Int), (wn : Int)⟩)) := Lib.hid (by
        rw [← HE8.out, strB_cat, ← hBB]
        rfl)
      rw [hBB] at hd hBL
      rw [hH]
      clear hz hBB hH
      have hz : (strB B).size = 116 := by rw [strB_size', hBL]
      have r0 := HR2.out.c0
      simp only at r0
      have hconv := run_bytes_of_string (P := Try.prog) w2.drew 9 45 5 (strB B) Try.underlying9 Try.underlying45 Try.underlying5
      rw [hz] at hconv
      have HY2 := Lib.hid (fun cap fr => bytes_bys w2.drew.drew _ cap hd fr)
      rw [hBL] at HY2
      have HA : Hid (∀ o, Below w2.heap.size w2 (w2.drew.drew.alloc o)) := Lib.hid (fun o => ((Below.refl _ _).drew.drew).alloc (Nat.le_refl _) _)
      have hz1 : (strB (B ++ tailOf (more 0 B))).size = 120 := by rw [strB_size', List.length_append, hBL]; rfl
      have hsz : ¬ 9223372036854775807 < (strB (B ++ tailOf (more 0 B))).size + E8.size := by rw [hz1, z1]; omega
      clear hz1 z1
      obtain ⟨SB, hSB⟩ : ∃ SB, Hid (strB (B ++ tailOf (more 0 B)) = SB) := ⟨_, Lib.hid rfl⟩
      rw [hSB.out] at hsz HBK
      go_wp2_with fail
      refine wp_region_held_drew (S := fun w' => w'.cell? ⟨w.heap.size, 0, none⟩ = some (.int .i64 (en : Int))) (by kernel_rfl) r0 (fun hHeld => ?_)
      refine wpAnyH_take (i := 0) (v := ?_) rfl (by kernel_rfl) (by kernel_rfl) (by kernel_rfl) (fun _ _ _ h => h) (Or.inl ⟨by rfl, ?_⟩) (by assumption) ?_
      rotate_left
      · intro w hSw
        try dsimp only at hSw
        go_simp
        all_goals (with_reducible rfl)
      try simp only [Act.put]
      try simp only [List.setIfInBounds_toArray]
      try simp only [List.set]
      refine wpAnyH_take (i := 3) (v := ?_) rfl (by kernel_rfl) (by kernel_rfl) (by kernel_rfl) (fun _ _ _ h => h) (Or.inl ⟨by rfl, ?_⟩) (by assumption) ?_
      rotate_left
      · intro w hSw
        try dsimp only at hSw
        go_simp
        all_goals (with_reducible rfl)
      try simp only [Act.put]
      try simp only [List.setIfInBounds_toArray]
      try simp only [List.set]
      refine wpAnyH_take (i := 4) (v := ?_) rfl (by kernel_rfl) (by kernel_rfl) (by kernel_rfl) (fun _ _ _ h => h) (Or.inl ⟨by rfl, ?_⟩) (by assumption) ?_
      rotate_left
      · intro w hSw
        try dsimp only at hSw
        go_simp
        all_goals (with_reducible rfl)
      try simp only [Act.put]
      try simp only [List.setIfInBounds_toArray]
      try simp only [List.set]
      refine wpAnyH_ready (rs := [1]) (by kernel_rfl) (by simp) ?_
      refine AllReadyH.cons rfl (fun K hK => ?_) AllReadyH.nil
      go_simp
      refine hK.out _ _ ?_ (fun hHeld => ?_)
      · exact ((HR2.out.below (HA.out _)).c0)
      clear hK K
      try simp only [Act.put]
      try simp only [List.setIfInBounds_toArray]
      try simp only [List.set]
      refine wpAnyH_ready (rs := [2]) (by kernel_rfl) (by simp) ?_
      refine AllReadyH.cons rfl (fun K hK => ?_) AllReadyH.nil
      go_simp
      refine (rseal_any _ 116 _ B _ (by omega) (by exact HY2.out _ _)).mono ?_
      rintro e w4 ⟨rfl, hb⟩
      rw [hSB.out]
      have HB4 := Lib.hid ((HA.out _).trans (Below.mono hb (HA.out _).size))
      clear hb hHeld
      go_simp
      refine hK.out _ _ ?_ (fun hHeld => ?_)
      · exact (HR2.out.below HB4.out).c0
      clear hK K
      try simp only [Act.put]
      try simp only [List.setIfInBounds_toArray]
      try simp only [List.set]
      refine wpAnyH_ready (rs := [5]) (by kernel_rfl) (by simp) ?_
      refine AllReadyH.cons rfl (fun K hK => ?_) AllReadyH.nil
      go_simp
      refine (N8.out _).mono ?_
      rintro e w5 ⟨rfl, hb⟩
      have HB5 := Lib.hid (HB4.out.trans (Below.mono hb HB4.out.size))
      clear hb hHeld
      go_simp
      refine hK.out _ _ ?_ (fun hHeld => ?_)
      · exact (HR2.out.below HB5.out).c0
      clear hK K
      try simp only [Act.put]
      try simp only [List.setIfInBounds_toArray]
      try simp only [List.set]
      refine wpAnyH_ready (rs := [6]) (by kernel_rfl) (by simp) ?_
      refine AllReadyH.cons rfl (fun K hK => ?_) AllReadyH.nil
      go_simp
      refine hK.out _ _ ?_ (fun hHeld => ?_)
      · exact (HR2.out.below HB5.out).c0
      clear hK K
      try simp only [Act.put]
      try simp only [List.setIfInBounds_toArray]
      try simp only [List.set]
      refine wpAnyH_ready (rs := [7]) (by kernel_rfl) (by simp) ?_
      refine AllReadyH.cons rfl (fun K hK => ?_) AllReadyH.nil
      go_simp
      refine hK.out _ _ ?_ (fun hHeld => ?_)
      · exact (HR2.out.below HB5.out).c0
      clear hK K
      try simp only [Act.put]
      try simp only [List.setIfInBounds_toArray]
      try simp only [List.set]
      refine wpAnyH_done (by kernel_rfl) ?_ _
      rw [HBK.out]
      go_wp2_with fail
      go_ret
      exact ⟨rfl, HB2.out.trans (Below.mono HB5.out HB2.out.size)⟩
end Go.Proofs.Ytnjlhallkgacjaa
