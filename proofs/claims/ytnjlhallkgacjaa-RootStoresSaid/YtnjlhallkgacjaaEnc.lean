/- What Encode returns. -/
import Derived.Test.YtnjlhallkgacjaaEnc0
import Derived.Deep.AppendLies
import Derived.StillTailTactics
import Derived.Deep.RegionWith
namespace Go.Proofs.Ytnjlhallkgacjaa
open Go.RowKit

theorem made_u8s (n : Nat) : (madeCells #[Value.int .u8 0] n).toList = u8s (List.replicate n 0) := by
  rw [toList_madeCells_one]
  unfold u8s
  rw [List.map_replicate]; rfl
set_option maxHeartbeats 400000 in
theorem encode_no (r : Rt) (w : World) (h : may r = false) :
    Calls Try.prog 10 #[r.val] w fun e w' => e = .returned (.tuple #[.string ⟨#[]⟩, .int .i64 1]) ∧ Below w.heap.size w w' := by
  have HM := Lib.hid (fun w => may_any r w)
  rw [h] at HM
  clear h
  obtain ⟨ep, pg, dr, wd⟩ := r
  unfold Rt.val at *
  go_enter Try.func10, Try.ntmps10
  go_wp2_with fail
  refine (HM.out _).mono ?_
  rintro e w1 ⟨rfl, hb⟩
  have HB := Lib.hid ((Below.refl _ _).alloc (Nat.le_refl _) (.cells #[.int .i64 ep, .int .i64 pg, .int .i64 dr, .int .i64 wd] 29) |>.trans (Below.mono hb (by simp)))
  clear hb
  go_wp2_with fail
  go_ret2
  exact ⟨rfl, HB.out⟩

set_option maxHeartbeats 1600000 in
theorem encode_yes (r : Rt) (w : World) (h : Mays r) :
    Calls Try.prog 10 #[r.val] w fun e w' => e = .returned (.tuple #[.string (strB (block r)), .int .i64 0]) ∧ Below w.heap.size w w' := by
  have HM := Lib.hid (fun w => may_any r w)
  rw [h.may] at HM
  have HY := Lib.hid h
  have q0 := h.e0
  have q1 := h.e1
  clear h
  obtain ⟨en, hen⟩ := Int.eq_ofNat_of_zero_le (show 0 ≤ r.ep by omega)
  obtain ⟨pn, hpn⟩ := Int.eq_ofNat_of_zero_le (show 0 ≤ r.pg by have := HY.out.p0; omega)
  obtain ⟨dn, hdn⟩ := Int.eq_ofNat_of_zero_le (show 0 ≤ r.dr by have := HY.out.d0; omega)
  obtain ⟨wn, hwn⟩ := Int.eq_ofNat_of_zero_le (show 0 ≤ r.wd by have := HY.out.w0; omega)
  obtain ⟨ep, pg, dr, wd⟩ := r
  simp only at hen hpn hdn hwn q0 q1
  subst hen hpn hdn hwn
  unfold Rt.val at *
  obtain ⟨i0, hi, hz0, hz1, hz2⟩ := info_parts Try.info5
  have HI := Lib.hid hi
  have HZ0 := Lib.hid hz0
  have HZ1 := Lib.hid hz1
  have HZ2 := Lib.hid hz2
  clear hi hz0 hz1 hz2
  have HR0 := Lib.hid (RtAt.new w ⟨(en : Int), (pn : Int), (dn : Int), (wn : Int)⟩ 29)
  have HB0 : Hid (Below w.heap.size w (w.alloc (.cells #[.int .i64 (en : Int), .int .i64 (pn : Int), .int .i64 (dn : Int), .int .i64 (wn : Int)] 29))) := Lib.hid ((Below.refl _ _).alloc (Nat.le_refl _) _)
  go_enter Try.func10, Try.ntmps10
  go_wp2_with fail
  have hsz : w.heap.size + 1 = (w.alloc (.cells #[.int .i64 (en : Int), .int .i64 (pn : Int), .int .i64 (dn : Int), .int .i64 (wn : Int)] 29)).heap.size := by simp
  refine (HM.out _).mono ?_
  rintro e w1 ⟨rfl, hb⟩
  have HR1 := Lib.hid (HR0.out.below hb)
  have HB1 := Lib.hid (HB0.out.trans (Below.mono hb (by simp)))
  have hg : w.heap.size < w1.heap.size := by have := hb.size; simp at this; omega
  clear hb HR0 HB0 hsz HM
  go_wp2_with (refine wpList_make_full _ rfl _ _ 45 rfl 0 5 i0 (.int .u8 0) 1 Try.underlying45 HI.out HZ0.out HZ1.out .i64 .i64 116 116 116 rfl rfl rfl rfl (by rw [HZ2.out]; omega) (by unfold maxLen; omega) (Nat.zero_le _) ?_)
  intro w2 hown hgrow
  have HRow : Hid (Row5 w2 w1.heap.size 116 (List.replicate 116 0)) := Lib.hid (by rw [made_u8s] at hown; exact hown)
  have hb2 : Below w1.heap.size w1 w2 := (Below.refl _ _).grown hgrow (Nat.le_refl _) (fun k e => by cases e)
  have HR2 := Lib.hid (HR1.out.below hb2)
  have HB2 := Lib.hid (HB1.out.trans (Below.mono hb2 HB1.out.size))
  clear hown hgrow hb2 HR1 HB1
  generalize w1.heap.size = g at *
  have c0 := HR2.out.c0
  go_wp2_with fail
  go_region_with (go_at_call 25; refine (put_8 g 116 0 116 en (List.replicate 116 0) _ (by exact HRow.out.below (Below.refl _ _).drew) (by omega) (by omega)).mono ?_; rintro e w3 ⟨rfl, hR3, hO3⟩)
  have HR3 := Lib.hid (HR2.out.only (Only.of_below (Below.refl _ _).drew |>.trans hO3) (by omega))
  have HB3 : Hid (Below w.heap.size w w3) := Lib.hid (hO3.below HB2.out.drew (HB2.out.drew.size) (by omega))
  clear HR2 HB2 HRow c0 hO3
  obtain ⟨w4, hcp, hR4, hO4⟩ := copy_name (l := 108) (c := 108) hR3 (o := 8) (by omega) (by omega) 3
  have HRow4 := Lib.hid hR4
  have HR4 := Lib.hid (HR3.out.only hO4 (by omega))
  have HB4 : Hid (Below w.heap.size w w4) := Lib.hid (hO4.below HB3.out HB3.out.size (by omega))
  clear hR3 hR4 HR3 HB3 hO4
  have p1 := HR4.out.c1
  have p2 := HR4.out.c2
  have p3 := HR4.out.c3
  go_wp2_with fail
  have H0 : Hid (EncRel w (w4.alloc (.cells #[.int .i64 (pn : Int), .int .i64 (dn : Int), .int .i64 (wn : Int)] 57)) g w4.heap.size w.heap.size ⟨(en : Int), (pn : Int), (dn : Int), (wn : Int)⟩ #[.int .i64 (pn : Int), .int .i64 (dn : Int), .int .i64 (wn : Int)] (rows en pn dn wn 0)) :=
    Lib.hid ⟨HRow4.out.below ((Below.refl _ _).alloc (Nat.le_refl _) _), HR4.out.below ((Below.refl _ _).alloc (Nat.le_refl _) _), heap_alloc_new w4 _, HB4.out.alloc HB4.out.size _⟩
  have hga : g < w4.heap.size := HRow4.out.lt
  clear hcp p1 p2 p3 HRow4 HR4 HB4
  generalize w4.alloc (.cells #[.int .i64 (pn : Int), .int .i64 (dn : Int), .int .i64 (wn : Int)] 57) = w5 at *
  generalize w4.heap.size = a at *
  go_loopw [26] (fun iv wr => ∃ j : Nat, j ≤ 3 ∧ iv = .int .i64 (j : Int) ∧ Hid (EncRel w wr g a w.heap.size ⟨(en : Int), (pn : Int), (dn : Int), (wn : Int)⟩ #[.int .i64 (pn : Int), .int .i64 (dn : Int), .int .i64 (wn : Int)] (rows en pn dn wn j))) (fun iv _ => 3 - (intOf iv).toNat)
  case atStart => exact ⟨0, by omega, by go_num, H0⟩
  case round =>
    obtain ⟨j, hj, rfl, HR⟩ := hrel
    clear H0
    by_cases hlt : j < 3
    · have k0 : wr.cell? ⟨a, 0, none⟩ = some (.int .i64 (pn : Int)) := by rw [cell_of_row wr a 0 _ _ _ HR.out.arr]; rfl
      have k1 : wr.cell? ⟨a, 1, none⟩ = some (.int .i64 (dn : Int)) := by rw [cell_of_row wr a 1 _ _ _ HR.out.arr]; rfl
      have k2 : wr.cell? ⟨a, 2, none⟩ = some (.int .i64 (wn : Int)) := by rw [cell_of_row wr a 2 _ _ _ HR.out.arr]; rfl
      have bp := HY.out.p1
      have bd := HY.out.d1
      have bw := HY.out.w1
      simp only at bp bd bw
      have HD := Lib.hid HR.out.drew
      rcases (show j = 0 ∨ j = 1 ∨ j = 2 by omega) with rfl | rfl | rfl
      · clear k1 k2
        go_wp2_with fail
        go_region_with (first
          | (go_at_call 26; refine (fieldPlace_any 0 _ (by omega)).mono ?_; rintro e w7 ⟨rfl, rfl⟩)
          | (go_at_call 25; refine (put_4 g 116 12 104 pn _ _ (by exact HD.out.row) (by omega) (by omega)).mono ?_; rintro e w7 ⟨rfl, hR7, hO7⟩))
        all_goals
          have HN := Lib.hid (HD.out.only hR7 hO7 (by omega) (by omega) (by omega))
          clear hR7 hO7 HR HD
          go_wp2_with fail
          go_roundw
          case rel => exact ⟨1, by omega, by go_num, HN⟩
          case measure => simp [intOf]
      · clear k0 k2
        go_wp2_with fail
        go_region_with (first
          | (go_at_call 26; refine (fieldPlace_any 1 _ (by omega)).mono ?_; rintro e w7 ⟨rfl, rfl⟩)
          | (go_at_call 25; refine (put_4 g 116 16 100 dn _ _ (by exact HD.out.row) (by omega) (by omega)).mono ?_; rintro e w7 ⟨rfl, hR7, hO7⟩))
        all_goals
          have HN := Lib.hid (HD.out.only hR7 hO7 (by omega) (by omega) (by omega))
          clear hR7 hO7 HR HD
          go_wp2_with fail
          go_roundw
          case rel => exact ⟨2, by omega, by go_num, HN⟩
          case measure => simp [intOf]
      · clear k0 k1
        go_wp2_with fail
        go_region_with (first
          | (go_at_call 26; refine (fieldPlace_any 2 _ (by omega)).mono ?_; rintro e w7 ⟨rfl, rfl⟩)
          | (go_at_call 25; refine (put_4 g 116 20 96 wn _ _ (by exact HD.out.row) (by omega) (by omega)).mono ?_; rintro e w7 ⟨rfl, hR7, hO7⟩))
        all_goals
          have HN := Lib.hid (HD.out.only hR7 hO7 (by omega) (by omega) (by omega))
          clear hR7 hO7 HR HD
          go_wp2_with fail
          go_roundw
          case rel => exact ⟨3, by omega, by go_num, HN⟩
          case measure => simp [intOf]
    · obtain rfl : j = 3 := by omega
      have HO := Lib.hid HR.out.row
      rw [rows_all] at HO
      have HB := Lib.hid HR.out.below
      have HRL := Lib.hid ((HO.out.below (Below.refl _ _).drew).bys (body_dig _))
      clear HR hj hlt
      go_wp2_with fail
      refine wp_region_any (by kernel_rfl) ?_
      refine wpAny_take (i := 0) (v := .slice (some ⟨g, 0, none⟩) 116 116) rfl (by kernel_rfl) (by kernel_rfl) (by kernel_rfl) (fun _ _ _ h => h) (Or.inl ⟨by kernel_rfl, fun w => by first | (go_simp; done) | (go_simp; rfl) | rfl⟩) ?_
      refine wpAny_take (i := 2) (v := .slice (some ⟨g, 0, none⟩) 116 116) rfl (by kernel_rfl) (by kernel_rfl) (by kernel_rfl) (fun _ _ _ h => h) (Or.inl ⟨by kernel_rfl, fun w => by first | (go_simp; done) | (go_simp; rfl) | rfl⟩) ?_
      refine wpAny_take (i := 3) (v := .slice (some ⟨g, 0, none⟩) 8 116) rfl (by kernel_rfl) (by kernel_rfl) (by kernel_rfl) (fun _ _ _ h => h) (Or.inl ⟨by kernel_rfl, fun w => by first | (go_simp; done) | (go_simp; rfl) | rfl⟩) ?_
      refine wpAny_ready (rs := [1]) (by kernel_rfl) (by simp) ?_
      refine AllReady.cons rfl (fun K hK => ?_) AllReady.nil
      go_simp
      go_wp2_with (go_at_call 27; refine (seal_any (some ⟨g, 0, none⟩) 116 116 (body ⟨(en : Int), (pn : Int), (dn : Int), (wn : Int)⟩) _ (by omega) HRL.out).mono ?_; rintro e w7 ⟨rfl, hO7, hb7⟩)
      have HB7 : Hid (Below w.heap.size w w7) := Lib.hid (HB.out.drew.trans (Below.mono hb7 HB.out.drew.size))
      have HE : Hid (Bys w7 (some ⟨g, 0, none⟩) 8 (be 8 en)) := Lib.hid (by
        have h1 := (HRL.out.below hb7).take (k := 8) (by omega)
        rw [show (body ⟨(en : Int), (pn : Int), (dn : Int), (wn : Int)⟩).take 8 = be 8 en from take_app _ _ (be_len _ _)] at h1
        exact h1)
      have HNEW : Hid (∀ j u, (u8s (be 8 en))[j]? = some u → w7.cell? ((⟨g, 0, none⟩ : Addr).add j) = some u) := Lib.hid (by
        obtain ⟨ad, e, h1⟩ := HE.out.cells (by omega)
        cases e
        exact h1)
      have HO7 := Lib.hid hO7
      have hwr : w.heap.size ≤ wr.heap.size := HB.out.size
      clear hO7 hb7 HO HRL HB
      refine wpAny_ready (rs := [4]) (by kernel_rfl) (by simp) ?_
      refine AllReady.cons rfl (fun K hK => ?_) AllReady.nil
      refine step_append_lies _ rfl (.tmp 40) (.tmp 42) 45 rfl _ 5 i0 (.int .u8 0) 1 1 Try.underlying45 HI.out HZ0.out HZ1.out HZ2.out rfl (by decide) _ (116 + 4) _ (by kernel_rfl) HO7.out ⟨g, 0, none⟩ 8 116 (u8s (be 8 en)) (by kernel_rfl) (by rw [u8s_len, be_len]) HNEW.out (u8s_one _) (by omega) (by unfold maxLen; omega) (by omega) (Nat.le_of_lt (HO7.out.lt _ rfl).2) _ rfl ?_
      intro gN cap w8 hown hgrow hat _
      have HB8 : Hid (Below w.heap.size w w8) := Lib.hid (HB7.out.grown hgrow HB7.out.size (fun k e => (by cases e; exact hwr)))
      have HY8 : Hid (Bys w8 (some ⟨gN, 0, none⟩) 128 (block ⟨(en : Int), (pn : Int), (dn : Int), (wn : Int)⟩)) := Lib.hid (Bys.own (bs := sealedB _ ++ be 8 en) (by rw [u8s_append]; exact hown) (block_dig _))
      have hcv := HY8.out.conv cap
      clear hown hgrow hat HB7 HO7 HNEW HE
      refine hK _ _ ?_
      clear hK K
      refine wpAny_ready (rs := [5]) (by kernel_rfl) (by simp) ?_
      refine AllReady.cons rfl (fun K hK => ?_) AllReady.nil
      go_simp
      refine hK _ _ ?_
      clear hK K
      refine wpAny_done (by kernel_rfl) ?_ _
      go_wp2_with fail
      go_ret2
      exact ⟨rfl, HB8.out⟩
end Go.Proofs.Ytnjlhallkgacjaa
