/- What the document makes of a failure. -/
import Derived.Test.YtdldjpgbifcljaaRBar
namespace Go.Proofs.Ytdldjpgbifcljaa
open Go.RowKit

theorem Ref.barrier {w : World} {x : Value} {m : Dsk} (h : Ref w x m) (hd : m.done ≤ 4611686018427387904) (hl : m.row.length ≤ 1099511627776) (ho : m.out.length ≤ 1099511627776) :
    Calls Try.prog 30 #[x] w fun e w' => (∃ y, e = .returned (.tuple #[y, .int .i64 (barE m)]) ∧ Ref w' y (barM m)) ∧ Below w.heap.size w w' := by
  obtain ⟨vL, vR, rfl, h⟩ := h
  have hok := h.ok.bar
  by_cases hdn : m.down = true
  · unfold refV
    obtain ⟨⟨q1, c1, rfl⟩, q2, c2, rfl⟩ := h.forms
    rw [hdn, show barM m = m by unfold barM; rw [if_pos hdn], show barE m = 9 by unfold barE; rw [if_pos hdn]]
    refine (rbar_down q1 q2 _ c1 _ c2 m.fuse (m.done : Int) w).mono ?_
    rintro e w' ⟨rfl, hb⟩
    exact ⟨⟨_, rfl, _, _, by unfold refV; rw [hdn], h.below hb⟩, hb⟩
  · have hf : m.down = false := by simpa using hdn
    by_cases hz : m.fuse = 0
    · unfold refV
      obtain ⟨⟨q1, c1, rfl⟩, q2, c2, rfl⟩ := h.forms
      rw [hf, hz, show barM m = burnt m by unfold barM; rw [if_neg hdn, if_pos hz], show barE m = 9 by unfold barE; rw [if_neg hdn, if_pos hz]]
      refine (rbar_burnt q1 q2 _ c1 _ c2 (m.done : Int) w).mono ?_
      rintro e w' ⟨rfl, hb⟩
      have h2 := h.below hb
      exact ⟨⟨_, rfl, _, _, by unfold refV burnt; rw [hz], h2.l, h2.r, h.ok.burnt⟩, hb⟩
    · have hM : barM m = { burns m with out := m.last, row := [] } := by unfold barM; rw [if_neg hdn, if_neg hz]
      rw [show barE m = 0 by unfold barE; rw [if_neg hdn, if_neg hz]]
      rw [hM] at hok ⊢
      unfold refV
      rw [hf]
      refine (rbar_ok h hz hd hl ho).mono ?_
      rintro e w' ⟨⟨vN, rfl, hN⟩, hb⟩
      refine ⟨⟨_, rfl, vN, .slice none 0 0, by unfold refV burns; rw [hf], ?_, World.ownsRow_nil _ _ _ _, hok⟩, hb⟩
      show World.ownsRow _ 0 9 1 _ m.last.length _
      rw [last_len]
      exact hN

theorem strB_toList (l : List Nat) : (strB l).data.toList = l.map UInt8.ofNat := by
  unfold strB
  rw [strOfNums_data, List.map_map]
  rfl
theorem ba_ext {a b : ByteArray} (h : a.data.toList = b.data.toList) : a = b := by
  cases a with | mk a => cases b with | mk b => simp at h; rw [h]
theorem strB_take (l : List Nat) (a : Nat) : (strB l).extract 0 a = strB (l.take a) := by
  apply ba_ext
  rw [ByteArray.data_extract, Array.toList_extract, strB_toList, strB_toList]
  simp [List.extract, List.map_take]
theorem strB_drop (l : List Nat) (a : Nat) : (strB l).extract a (strB l).size = strB (l.drop a) := by
  apply ba_ext
  rw [ByteArray.data_extract, Array.toList_extract, strB_toList, strB_toList, strB_size]
  simp only [List.extract, List.map_drop]
  rw [List.take_of_length_le (by simp)]
theorem strB_append (a b : List Nat) : strB (a ++ b) = strB a ++ strB b := by
  apply ba_ext
  rw [strB_toList, ByteArray.data_append, Array.toList_append, strB_toList, strB_toList, List.map_append]
/-- The document's disk amid a failure. -/
structure FailR (w wr : World) (b : Nat) (vL vR : Value) (fu : Int) (dw : Bool) (dn : Int) (no n : Nat) (L : List (List Nat)) (rw_ : List Wr) : Prop where
  a : Box5 wr b vL vR (.int .i64 fu) (.bool dw) (.int .i64 dn)
  r : ∃ z0 z1 z2 z3 z4, Box5 wr (b + 1) z0 z1 z2 z3 z4
  below : Below w.heap.size w wr
  l : wr.ownsRow 0 9 1 vL no (strs L)
  row : wr.ownsRow 0 73 2 vR n (wrs rw_)
section
variable {w wr wd w4 : World} {b : Nat} {vL vR : Value} {fu dn : Int} {dw : Bool} {no n : Nat} {L L2 : List (List Nat)} {l : List Wr}
theorem FailR.le (h : FailR w wr b vL vR fu dw dn no n L l) (hb : Below wr.heap.size wr w4) : FailR w w4 b vL vR fu dw dn no n L l := by
  obtain ⟨z0, z1, z2, z3, z4, hr⟩ := h.r
  exact ⟨h.a.below hb, ⟨z0, z1, z2, z3, z4, hr.below hb⟩, h.below.trans (hb.mono h.below.size), own_chg h.l (Chg.of_below (F := []) hb) (fun k hk => by cases hk) (by decide), own_chg h.row (Chg.of_below (F := []) hb) (fun k hk => by cases hk) (by decide)⟩
theorem FailR.step (h : FailR w wd b vL vR fu dw dn no n L l) (hb : Below wd.heap.size wd w4) (hw : w.heap.size ≤ b) {bN cN : Nat}
    (hown : w4.ownsRow 0 9 1 (.slice (some ⟨bN, 0, none⟩) no cN) no (strs L2)) : FailR w (w4.setCell ⟨b, 0, none⟩ (.slice (some ⟨bN, 0, none⟩) no cN)) b (.slice (some ⟨bN, 0, none⟩) no cN) vR fu dw dn no n L2 l := by
  have h2 := h.le hb
  obtain ⟨z0, z1, z2, z3, z4, hr⟩ := h2.r
  have hN : bN ≠ b := by obtain ⟨cur, hc⟩ := own_head hown rfl; exact ne_of_ty hc h2.a.hd (by decide)
  have hR : ∀ j, vR.ownBlock = some j → j ≠ b := fun j e => by obtain ⟨cur, hc⟩ := own_head h2.row e; exact ne_of_ty hc h2.a.hd (by decide)
  exact ⟨h2.a.set0 _, ⟨z0, z1, z2, z3, z4, hr.other (Nat.succ_ne_self _) _⟩, h2.below.setCell hw _,
    own_other hown (fun j e => by cases e; exact heap_setCell_other _ _ _ _ hN), own_other h2.row (fun j e => heap_setCell_other _ _ _ _ (hR j e))⟩
end
set_option maxHeartbeats 1600000 in
theorem rfail_raw {w : World} {m : Dsk} {vL vR : Value} (h : RefV w vL vR m) (hl : m.row.length ≤ 1099511627776) (ho : m.out.length ≤ 1099511627776) (p : Option Addr) (nk ck : Nat) (f : Nat → Bool) (hK : Kp w p nk f) (hnk : nk ≤ 9223372036854775807) (torn at_ : Int) :
    Calls Try.prog 32 #[.agg #[vL, vR, .int .i64 m.fuse, .bool m.down, .int .i64 (m.done : Int)], .slice p nk ck, .int .i64 torn, .int .i64 at_] w fun e w' =>
      (∃ vN, e = .returned (.agg #[vN, .slice none 0 0, .int .i64 (-1), .bool true, .int .i64 (m.done : Int)]) ∧ w'.ownsRow 0 9 1 vN m.out.length (strs (failN m.row m.out (bits (keepB nk f) torn (cut128 at_)) m.row.length))) ∧ Below w.heap.size w w' := by
  obtain ⟨⟨q1, c1, rfl⟩, q2, c2, rfl⟩ := h.forms
  have HH := Lib.hid h
  have HK := Lib.hid hK
  have hC := cut128_le at_
  have HC : Hid (((cut128 at_ : Nat) : Int) = min (max at_ 0) 128) := Lib.hid (by unfold cut128; omega)
  clear h hK
  obtain ⟨n, hnn⟩ : ∃ n, Hid (m.row.length = n) := ⟨_, Lib.hid rfl⟩
  obtain ⟨no, hno⟩ : ∃ no, Hid (m.out.length = no) := ⟨_, Lib.hid rfl⟩
  rw [hnn.out] at hl ⊢
  rw [hno.out] at ho ⊢
  obtain ⟨ca, hca⟩ : ∃ ca, cut128 at_ = ca := ⟨_, rfl⟩
  rw [hca] at HC hC ⊢
  have HT : Hid (∀ k : Nat, (k : Int) = torn → bits (keepB nk f) torn ca k = some ca) := Lib.hid (fun k hk => by unfold bits; rw [if_pos hk])
  have HT2 : Hid (∀ k : Nat, (k : Int) ≠ torn → k < nk → f k = true → bits (keepB nk f) torn ca k = some 128) := Lib.hid (fun k hk h1 h2 => by unfold bits keepB; rw [if_neg hk, if_pos (by simp [h1, h2])])
  have HT3 : Hid (∀ k : Nat, (k : Int) ≠ torn → (k < nk → f k = false) → bits (keepB nk f) torn ca k = none) := Lib.hid (fun k hk h1 => by
    unfold bits keepB
    rw [if_neg hk, if_neg (by
      intro e
      simp only [Bool.and_eq_true, decide_eq_true_eq] at e
      rw [h1 e.1] at e
      cases e.2)])
  have HSC : Hid (∀ k, k ≤ n → Secs128 (failN m.row m.out (bits (keepB nk f) torn ca) k)) := Lib.hid (fun k hk => Secs128.failN HH.out.ok.out HH.out.ok.row (fun k b hb => bits_le hC k b hb) k (by rw [hnn.out]; exact hk))
  generalize bits (keepB nk f) torn ca = bf at *
  have HROW : Hid (∀ x ∈ m.row, x.1 < no ∧ x.2.length = 128) := Lib.hid (fun x hx => by rw [← hno.out]; exact ⟨(HH.out.ok.row x hx).1, (HH.out.ok.row x hx).2.1⟩)
  clear hca
  have H0 : Hid (∀ z0 z1 z2 z3 z4, FailR w ((w.alloc (.cells #[.slice q1 no c1, .slice q2 n c2, .int .i64 m.fuse, .bool m.down, .int .i64 (m.done : Int)] 33)).alloc (.cells #[z0, z1, z2, z3, z4] 33)) w.heap.size (.slice q1 no c1) (.slice q2 n c2) m.fuse m.down (m.done : Int) no n (failN m.row m.out bf 0) m.row) := Lib.hid (fun z0 z1 z2 z3 z4 => by
    have hx := boxes w (.slice q1 no c1) (.slice q2 n c2) (.int .i64 m.fuse) (.bool m.down) (.int .i64 (m.done : Int)) z0 z1 z2 z3 z4
    have hl := HH.out.l
    have hr := HH.out.r
    rw [hno.out] at hl
    rw [hnn.out] at hr
    have hb := below2 w (.cells #[.slice q1 no c1, .slice q2 n c2, .int .i64 m.fuse, .bool m.down, .int .i64 (m.done : Int)] 33) (.cells #[z0, z1, z2, z3, z4] 33)
    exact ⟨hx.1, ⟨_, _, _, _, _, hx.2⟩, hb, own_chg hl (Chg.of_below (F := []) hb) (fun k hk => by cases hk) (by decide), own_chg hr (Chg.of_below (F := []) hb) (fun k hk => by cases hk) (by decide)⟩)
  generalize hfu : m.fuse = fu at *
  generalize hdo : m.down = dw at *
  generalize hdn : m.done = dn at *
  have HFU := Lib.hid hfu
  have HDO := Lib.hid hdo
  have HDN := Lib.hid hdn
  clear hfu hdo hdn
  go_enter Try.func32, Try.ntmps32
  go_upto_if 12 with fail
  have H1 := Lib.hid (H0.out (.slice none 0 0) (.slice none 0 0) (.int .i64 0) (.bool false) (.int .i64 0))
  clear H0
  generalize (w.alloc (.cells #[.slice q1 no c1, .slice q2 n c2, .int .i64 fu, .bool dw, .int .i64 (dn : Int)] 33)).alloc (.cells #[.slice none 0 0, .slice none 0 0, .int .i64 0, .bool false, .int .i64 0] 33) = w1 at *
  go_cut [3] (fun v wx => v = .int .i64 (max at_ 0) ∧ wx = w1)
  case first =>
    go_wp2_with fail
    all_goals go_meet
    all_goals exact ⟨congrArg (Value.int .i64) (by omega), rfl⟩
  case rest =>
    obtain ⟨rfl, rfl⟩ := hcut
    obtain ⟨a1, ha1⟩ : ∃ a1, max at_ 0 = a1 := ⟨_, rfl⟩
    rw [ha1] at HC ⊢
    clear ha1
    go_upto_if 14 with fail
    go_cut [3] (fun v wx => v = .int .i64 (ca : Int) ∧ wx = wc)
    case first =>
      go_wp2_with fail
      all_goals go_meet
      all_goals exact ⟨congrArg (Value.int .i64) (by have := HC.out; omega), rfl⟩
    case rest =>
      obtain ⟨rfl, rfl⟩ := hcut
      go_wp2_with fail
      go_loopw [9] (fun iv wq => ∃ k : Nat, k ≤ n ∧ iv = .int .i64 (k : Int) ∧ Hid (∃ vL, FailR w wq w.heap.size vL (.slice q2 n c2) fu dw (dn : Int) no n (failN m.row m.out bf k) m.row)) (fun iv _ => n - (intOf iv).toNat)
      case atStart => exact ⟨0, by omega, by go_num, Lib.hid ⟨_, H1.out⟩⟩
      case round =>
        obtain ⟨k, hk, rfl, hr⟩ := hrel
        clear H1
        obtain ⟨vL, hB⟩ := hr.out
        have HB := Lib.hid hB
        clear hr hB
        have a1 := HB.out.a.c1
        by_cases hlt : k < n
        · have hwm := wr_mem (show k < m.row.length by rw [hnn.out]; exact hlt)
          obtain ⟨hi, hs128⟩ := HROW.out _ hwm
          obtain ⟨gL, cL, rfl, _, hgL⟩ := HB.out.l.form (by omega)
          obtain ⟨gR, cR, hvR, _, hgR⟩ := HB.out.row.form (by omega)
          simp only [Value.slice.injEq] at hvR
          obtain ⟨rfl, _, rfl⟩ := hvR
          have h1 := HB.out.row.cellAt (k * 2) (by omega)
          have h2 := HB.out.row.cellAt (k * 2 + 1) (by omega)
          rw [(wrs_get _ k (by rw [hnn.out]; exact hlt)).1] at h1
          rw [(wrs_get _ k (by rw [hnn.out]; exact hlt)).2] at h2
          have HLen : Hid ((failN m.row m.out bf k).length = no) := Lib.hid ((failN_len _ _ _ _).trans hno.out)
          have hold := HB.out.l.cellAt (Go.Proofs.Ytdldjpgbifcljaa.wr m.row k).1 (by omega)
          rw [strs_get _ _ (by rw [HLen.out]; exact hi)] at hold
          have hold128 := (HSC.out k hk _ (sec_mem (by rw [HLen.out]; exact hi))).1
          have HE : Hid (∀ o, bf k = o → failN m.row m.out bf (k + 1) = bring (failN m.row m.out bf k) (Go.Proofs.Ytdldjpgbifcljaa.wr m.row k) o) := Lib.hid (fun o ho => by subst ho; rfl)
          have b1 : (0 : Int) ≤ (k : Int) := by omega
          have b2 : (k : Int) < (n : Int) := by omega
          have b3 : (0 : Int) ≤ ((Go.Proofs.Ytdldjpgbifcljaa.wr m.row k).1 : Int) := by omega
          have b4 : ((Go.Proofs.Ytdldjpgbifcljaa.wr m.row k).1 : Int) < (no : Int) := by omega
          have HBX : Hid (∀ v0 v1, (World.alloc wr (.cells #[v0, v1] 73)).cell? ⟨wr.heap.size, 0, none⟩ = some v0 ∧ (World.alloc wr (.cells #[v0, v1] 73)).cell? ⟨wr.heap.size, 1, none⟩ = some v1 ∧ Below wr.heap.size wr (wr.alloc (.cells #[v0, v1] 73))) := Lib.hid (fun v0 v1 => ⟨World.cell?_alloc_new wr _ _ 0, World.cell?_alloc_new wr _ _ 1, (Below.refl _ _).alloc (Nat.le_refl _) _⟩)
          clear hwm
          by_cases ht : (k : Int) = torn
          · have hb := Lib.hid (HE.out _ (HT.out k ht))
            have hd : ((k : Int) == torn) = true := by simpa using ht
            clear ht
            go_wp2_with fail
            obtain ⟨x0, x1, hbx⟩ := HBX.out (.int .i64 ((Go.Proofs.Ytdldjpgbifcljaa.wr m.row k).1 : Int)) (.string (strB (Go.Proofs.Ytdldjpgbifcljaa.wr m.row k).2))
            have HBx := Lib.hid (HB.out.le hbx)
            have hx := (hbx.cell (p := ⟨gL, (Go.Proofs.Ytdldjpgbifcljaa.wr m.row k).1, none⟩) hgL).trans hold
            have a0 := HBx.out.a.c0
            have af := HBx.out.a.fz
            have hSz : (strB (Go.Proofs.Ytdldjpgbifcljaa.wr m.row k).2).size = 128 := (strB_size _).trans hs128
            have hTz : (strB (sec (failN m.row m.out bf k) (Go.Proofs.Ytdldjpgbifcljaa.wr m.row k).1)).size = 128 := (strB_size _).trans hold128
            have HAP : Hid (((strB (Go.Proofs.Ytdldjpgbifcljaa.wr m.row k).2).extract 0 ca ++ (strB (sec (failN m.row m.out bf k) (Go.Proofs.Ytdldjpgbifcljaa.wr m.row k).1)).extract ca 128) = strB (tear ca (Go.Proofs.Ytdldjpgbifcljaa.wr m.row k).2 (sec (failN m.row m.out bf k) (Go.Proofs.Ytdldjpgbifcljaa.wr m.row k).1))) := Lib.hid (by
              have h := strB_drop (sec (failN m.row m.out bf k) (Go.Proofs.Ytdldjpgbifcljaa.wr m.row k).1) ca
              rw [hTz] at h
              rw [strB_take, h, ← strB_append]; rfl)
            have b5 : (0 : Int) ≤ (ca : Int) := by omega
            have b6 : (ca : Int) ≤ 128 := by omega
            clear hbx h1 h2 hold HBX HB a1
            generalize wr.alloc (.cells #[.int .i64 ((Go.Proofs.Ytdldjpgbifcljaa.wr m.row k).1 : Int), .string (strB (Go.Proofs.Ytdldjpgbifcljaa.wr m.row k).2)] 73) = wx at *
            generalize hw : Go.Proofs.Ytdldjpgbifcljaa.wr m.row k = W at *
            clear hw
            obtain ⟨i, t⟩ := W
            simp only at *
            generalize strB t = S at *
            generalize hs0 : sec (failN m.row m.out bf k) i = s0 at *
            generalize strB s0 = T at *
            go_still_tail 17, (by kernel_rfl)
            change wpList _ _ _ _ _ (World.drew _)
            have HBD := Lib.hid (HBx.out.le (Below.refl _ _).drew)
            have d0 := HBD.out.a.c0
            have df := HBD.out.a.fz
            clear a0 af HBx x0 x1 hx
            generalize World.drew _ = wd at *
            go_wp2_with fail
            rw [HAP.out]
            refine (with_any gL no cL _ i (tear ca t s0) _ HBD.out.l HLen hi ho).mono ?_
            rintro e w4 ⟨⟨bN, cN, rfl, hown⟩, hbw⟩
            rw [show (failN m.row m.out bf k).set i (tear ca t s0) = failN m.row m.out bf (k + 1) from by rw [hb.out, ← hs0]; rfl] at hown
            have HNX := Lib.hid (HBD.out.step hbw (Nat.le_refl _) hown)
            have c0 := (HBD.out.a.below hbw).c0
            have cf := (HBD.out.a.below hbw).fz
            clear hown hbw d0 df HBD
            go_wp2_with fail
            go_roundw
            case rel => exact ⟨k + 1, by omega, by go_num, Lib.hid ⟨_, HNX.out⟩⟩
            case measure => simp [intOf]; omega
          · have hd : ((k : Int) == torn) = false := by simpa using ht
            by_cases hkn : k < nk
            · obtain ⟨bK, oK, rfl, hcell0⟩ := HK.out (by omega)
              have hck := hcell0 k hkn
              have hbK := World.block_lt_of_cell? w _ hck
              clear hcell0
              have hkn2 : (k : Int) < (nk : Int) := by omega
              cases hfk : f k with
              | true =>
                have hb := Lib.hid (HE.out _ (HT2.out k ht hkn hfk))
                rw [hfk] at hck
                clear ht hfk
                obtain ⟨x0, x1, hbx⟩ := HBX.out (.int .i64 ((Go.Proofs.Ytdldjpgbifcljaa.wr m.row k).1 : Int)) (.string (strB (Go.Proofs.Ytdldjpgbifcljaa.wr m.row k).2))
                have HBx := Lib.hid (HB.out.le hbx)
                have hck2 := (HBx.out.below.cell (p := ⟨bK, oK + k, none⟩) hbK).trans hck
                have a0 := HBx.out.a.c0
                have af := HBx.out.a.fz
                go_upto_region 11 with fail
                clear hbx h1 h2 hold HBX HB a1
                generalize wr.alloc (.cells #[.int .i64 ((Go.Proofs.Ytdldjpgbifcljaa.wr m.row k).1 : Int), .string (strB (Go.Proofs.Ytdldjpgbifcljaa.wr m.row k).2)] 73) = wx at *
                have hall := tear_all (Go.Proofs.Ytdldjpgbifcljaa.wr m.row k).2 (sec (failN m.row m.out bf k) (Go.Proofs.Ytdldjpgbifcljaa.wr m.row k).1) hs128 hold128
                have HALL := Lib.hid hall
                clear hall
                go_wp2_with fail
                refine (with_any gL no cL _ _ _ _ HBx.out.l HLen hi ho).mono ?_
                rintro e w4 ⟨⟨bN, cN, rfl, hown⟩, hbw⟩
                rw [show (failN m.row m.out bf k).set (Go.Proofs.Ytdldjpgbifcljaa.wr m.row k).1 (Go.Proofs.Ytdldjpgbifcljaa.wr m.row k).2 = failN m.row m.out bf (k + 1) from by rw [hb.out]; show _ = (failN m.row m.out bf k).set _ (tear 128 _ _); rw [HALL.out]] at hown
                have HNX := Lib.hid (HBx.out.step hbw (Nat.le_refl _) hown)
                have c0 := (HBx.out.a.below hbw).c0
                have cf := (HBx.out.a.below hbw).fz
                clear hown hbw a0 af HBx x0 x1 hck2
                go_wp2_with fail
                go_roundw
                case rel => exact ⟨k + 1, by omega, by go_num, Lib.hid ⟨_, HNX.out⟩⟩
                case measure => simp [intOf]; omega
              | false =>
                have hb := HE.out _ (HT3.out k ht (fun _ => hfk))
                rw [hfk] at hck
                clear ht hfk
                have hck2 := (HB.out.below.cell (p := ⟨bK, oK + k, none⟩) hbK).trans hck
                have hck3 : (wr.alloc (.cells #[.int .i64 ((Go.Proofs.Ytdldjpgbifcljaa.wr m.row k).1 : Int), .string (strB (Go.Proofs.Ytdldjpgbifcljaa.wr m.row k).2)] 73)).cell? ⟨bK, oK + k, none⟩ = some (.bool false) := (World.cell?_alloc_lt _ _ _ (World.block_lt_of_cell? _ _ hck2)).trans hck2
                have HNX : Hid (FailR w (wr.alloc (.cells #[.int .i64 ((Go.Proofs.Ytdldjpgbifcljaa.wr m.row k).1 : Int), .string (strB (Go.Proofs.Ytdldjpgbifcljaa.wr m.row k).2)] 73)) w.heap.size (.slice (some ⟨gL, 0, none⟩) no cL) (.slice (some ⟨gR, 0, none⟩) n c2) fu dw (dn : Int) no n (failN m.row m.out bf (k + 1)) m.row) := Lib.hid (by rw [hb]; exact HB.out.le (HBX.out _ _).2.2)
                clear hb
                go_wp2_with fail
                go_roundw
                case rel => exact ⟨k + 1, by omega, by go_num, Lib.hid ⟨_, HNX.out⟩⟩
                case measure => simp [intOf]; omega
            · have hb := HE.out _ (HT3.out k ht (fun h => absurd h hkn))
              have hkn2 : decide (k < nk) = false := decide_eq_false hkn
              have HNX : Hid (FailR w (wr.alloc (.cells #[.int .i64 ((Go.Proofs.Ytdldjpgbifcljaa.wr m.row k).1 : Int), .string (strB (Go.Proofs.Ytdldjpgbifcljaa.wr m.row k).2)] 73)) w.heap.size (.slice (some ⟨gL, 0, none⟩) no cL) (.slice (some ⟨gR, 0, none⟩) n c2) fu dw (dn : Int) no n (failN m.row m.out bf (k + 1)) m.row) := Lib.hid (by rw [hb]; exact HB.out.le (HBX.out _ _).2.2)
              clear hb ht
              go_wp2_with fail
              go_roundw
              case rel => exact ⟨k + 1, by omega, by go_num, Lib.hid ⟨_, HNX.out⟩⟩
              case measure => simp [intOf]; omega
        · obtain rfl : k = n := by omega
          obtain ⟨qL, cL, hvL⟩ := own_form HB.out.l
          rw [hvL] at HB
          have a0 := HB.out.a.c0
          have a2 := HB.out.a.c2
          have a3 := HB.out.a.c3
          have a4 := HB.out.a.c4
          have af := HB.out.a.fz
          obtain ⟨z0, z1, z2, z3, z4, hR⟩ := HB.out.r
          have r0 := hR.c0
          have r1 := hR.c1
          have r2 := hR.c2
          have r3 := hR.c3
          have r4 := hR.c4
          have rf := hR.fz
          have HN1 : Hid (∀ j, (Value.slice qL no cL).ownBlock = some j → j ≠ w.heap.size ∧ j ≠ w.heap.size + 1) := Lib.hid (fun j e => by
            obtain ⟨cur, hc⟩ := own_head HB.out.l e
            exact ⟨ne_of_ty hc HB.out.a.hd (by decide), ne_of_ty hc hR.hd (by decide)⟩)
          clear hR hvL
          go_wp2_with fail
          refine bodyPost_ret (v := .agg #[.slice qL no cL, .slice none 0 0, .int .i64 (-1), .bool true, .int .i64 (dn : Int)]) (by simp [results, Try.results32, go_sem, r0, r1, r2, r3, r4]) rfl ⟨⟨_, rfl, ?_⟩, ?_⟩
          · refine own_other HB.out.l (fun j hj => ?_)
            iterate 5 refine (heap_setCell_other _ _ _ _ (HN1.out j hj).2).trans ?_
            iterate 2 refine (heap_setCell_other _ _ _ _ (HN1.out j hj).1).trans ?_
            exact heap_setCell_other _ _ _ _ (HN1.out j hj).1
          · repeat' refine Below.setCell ?_ (by first | exact Nat.le_refl _ | exact Nat.le_succ _) _
            exact HB.out.below
theorem Ref.fail {w : World} {x : Value} {m : Dsk} (h : Ref w x m) (hl : m.row.length ≤ 1099511627776) (ho : m.out.length ≤ 1099511627776) (p : Option Addr) (nk ck : Nat) (f : Nat → Bool) (hK : Kp w p nk f) (hnk : nk ≤ 9223372036854775807) (torn at_ : Int) :
    Calls Try.prog 32 #[x, .slice p nk ck, .int .i64 torn, .int .i64 at_] w fun e w' => (∃ y, e = .returned y ∧ Ref w' y (failM m (keepB nk f) torn at_)) ∧ Below w.heap.size w w' := by
  obtain ⟨vL, vR, rfl, h⟩ := h
  refine (rfail_raw h hl ho p nk ck f hK hnk torn at_).mono ?_
  rintro e w' ⟨⟨vN, rfl, hN⟩, hb⟩
  refine ⟨⟨_, rfl, vN, .slice none 0 0, rfl, ?_, World.ownsRow_nil _ _ _ _, h.ok.fail _ _ _⟩, hb⟩
  show World.ownsRow _ 0 9 1 _ (failN m.row m.out _ m.row.length).length _
  rw [failN_len]
  exact hN
end Go.Proofs.Ytdldjpgbifcljaa
