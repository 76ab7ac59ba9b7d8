/- Texts YClr0 to LNilsV of this seat, laid into one. -/
import Derived.Laws.BitsAllLaws
import Derived.Test.YtmbecjlioogbhaaGreatDoorRows
import Derived.Deep.Grids
import Derived.Deep.Slices
import Derived.ProofKit
import Derived.OpenShut
import Derived.ChangeSame
import Derived.SizedLaws
import Derived.Carry
import Derived.Test.YtmbecjlioogbhaaGreatDoorM02
import Derived.Test.YtmbecjlioogbhaaGreatDoorM13
import Derived.Test.YtmbecjlioogbhaaGreatDoorM14
import Derived.Test.YtmbecjlioogbhaaGreatDoorM20
import Derived.Test.YtmbecjlioogbhaaGreatDoorM21
import Derived.Test.YtmbecjlioogbhaaGreatDoorM23
set_option linter.unusedVariables false
set_option linter.unusedSimpArgs false
set_option linter.constructorNameAsVariable false
section
/-! The desk is cleared that has one page, with one record. -/
set_option maxRecDepth 20000
set_option linter.unusedSimpArgs false
namespace Go.Proofs.YtmbecjlioogbhaaGreatDoor
open Go.RowKit

theorem dm_one (l gp : Nat) (hl : l < 512) : Dmf.keys (Dmf.put (fun _ => none) l gp) = [l] := by
  have hmem : ∀ j, j ∈ Dmf.keys (Dmf.put (fun _ => none) l gp) ↔ j = l := fun j => by
    rw [Dmf.mem_keys]
    unfold Dmf.put
    by_cases e : j = l
    · subst e; simp [hl]
    · simp [e]
  have hnd : (Dmf.keys (Dmf.put (fun _ => none) l gp)).Nodup := by unfold Dmf.keys; exact List.nodup_range.filter _
  generalize Dmf.keys (Dmf.put (fun _ => none) l gp) = L at *
  match L, hmem, hnd with
  | [], h, _ => exact absurd ((h l).2 rfl) (by simp)
  | [a], h, _ => rw [(h a).1 (by simp)]
  | a :: b :: r, h, hn =>
    have h1 := (h a).1 (by simp)
    have h2 := (h b).1 (by simp)
    rw [h1, h2] at hn
    simp at hn
theorem room_one (T : ByteArray) (hT : T.size ≤ 480) : ∃ r : Nat, Sl.room [some T] = (r : Int) := by
  have hn : Sl.need [some T] = 3 + T.size := by simp [Sl.need, Sl.tot, Sl.sz, Sl.recOf]
  have hb : Sl.bareI [some T] = 1 := rfl
  have h0 : Sl.room0 [some T] = 512 - ((3 + T.size : Nat) : Int) - 2 := by
    unfold Sl.room0 Sl.left
    rw [hn, hb]
    simp
  refine ⟨(Sl.room [some T]).toNat, ?_⟩
  have : 0 ≤ Sl.room [some T] := by
    unfold Sl.room
    rw [hb, h0, if_neg (by omega)]
    omega
  omega
section
variable {w w' : World} {d sg pg k g mb mb2 n gp l2 : Nat} {D G : List Nat} {m : Dsk} {s : Sp} {y : Xv} {v vp : Value} {F : Nat → Nat} {T : ByteArray}
set_option maxHeartbeats 3200000 in
theorem Sto.clear0 (h : Sto w d sg D G m s pg y k g mb v n F) (hm : Dms w mb2 (Dmf.put (fun _ => none) l2 gp)) (hp : Sl.Pg0 w gp vp [some T]) (hl2 : l2 < 512) (hth : thX y.now (l2 : Int) = true) (hr : ∃ fr, Rms w mb fr) (hmG : mb ∉ G) (hmD : mb ∉ D) (h2G : mb2 ∉ G) (hpG : ∀ j ∈ Sl.foot gp vp, j ∉ G) (hT : T.size ≤ 480) :
    Calls Tryz.prog 57 #[.agg #[.pointer (some ⟨g, 0, none⟩), .map (some mb2)]] w fun e w' => e = .returned (.tuple #[]) ∧ ∃ s', Sto w' d sg D G m s' pg (y.put l2 (Sl.bytesM [some T])) k g mb v n F ∧ Chg (mb :: G) (mb :: G) w w' := by
  have hb0 : Below w.heap.size w (w.alloc (.cells #[.pointer (some ⟨g, 0, none⟩), .map (some mb2)] 106)) := (Below.refl _ _).alloc (Nat.le_refl _) _
  have hx0 := heap_alloc_new w (.cells #[.pointer (some ⟨g, 0, none⟩), .map (some mb2)] 106)
  have H1 := Lib.hid (h.below hb0)
  have HM1 := Lib.hid (hm.below hb0)
  have HP1 := Lib.hid (hp.below hb0)
  have HG := Lib.hid (kin_lt h.sp.kinG)
  have HB01 := Lib.hid hb0
  clear h hm hp hb0
  go_enter Tryz.func57, Tryz.ntmps57
  go_upto_region 1 with fail
  generalize w.alloc (.cells #[.pointer (some ⟨g, 0, none⟩), .map (some mb2)] 106) = W1 at *
  have a0 := cell_of_row _ _ 0 _ _ _ hx0
  have a1 := cell_of_row _ _ 1 _ _ _ hx0
  simp at a0 a1
  have hk := keysDm (some mb2) W1
  have hs := sortedDm HM1.out
  rw [dm_one l2 gp hl2] at hs
  have HK := Lib.hid hk
  have HS := Lib.hid hs
  have hbk : Below W1.heap.size W1 (W1.alloc (.cells #[.map (some mb2)] 104)) := (Below.refl _ _).alloc (Nat.le_refl _) _
  have HBK := Lib.hid hbk
  clear hk hs hbk
  go_wp2_with (first
    | (go_at_call 110; with_reducible refine HK.out.mono ?_; rintro e w1 ⟨rfl, rfl⟩)
    | (go_at_call 94; with_reducible refine HS.out.mono ?_; rintro e w2 ⟨⟨v2, rfl, ho⟩, hb2⟩; have HB2 := Lib.hid (HBK.out.trans (hb2.mono HBK.out.size)); have HO2 := Lib.hid ho; obtain ⟨q2, c2', rfl⟩ := own_form ho; clear ho hb2))
  obtain ⟨bk, rfl, hbk⟩ : ∃ b, q2 = some ⟨b, 0, none⟩ ∧ w2.cell? ⟨b, 0, none⟩ = some (.int .i64 (l2 : Int)) := by
    obtain ⟨p, c, e, hc⟩ := HO2.out.cells
    cases e
    obtain ⟨b, e, hcell⟩ := hc 0 (by simp)
    exact ⟨b, e, hcell⟩
  have HX2 := Lib.hid ((HB2.out.block _ (lt_of_block hx0)).trans hx0)
  have H2 := Lib.hid (H1.out.below HB2.out)
  have HM2 := Lib.hid (HM1.out.below HB2.out)
  have HP2 := Lib.hid (HP1.out.below HB2.out)
  obtain ⟨fr, hfr⟩ := hr
  obtain ⟨rm, hrm⟩ := room_one T hT
  have HLN := Lib.hid (Sl.len_any HP2.out)
  have HBY : Hid (∀ w1, Below w2.heap.size w2 w1 → Calls Tryz.prog 106 #[.pointer (some ⟨gp, 0, none⟩)] w1 fun e w' => e = .returned (.string (strB (Sl.bytesM [some T]))) ∧ Below w1.heap.size w1 w') := Lib.hid fun w1 hb => Sl.bytes_any (HP2.out.below hb)
  have hok := HP2.out.ok
  have HWR : Hid (∀ w1, Below w2.heap.size w2 w1 → Calls Tryz.prog 36 #[.pointer (some ⟨sg, 0, none⟩), .int .i64 (l2 : Int), .string (strB (Sl.bytesM [some T]))] w1 fun e w' => e = .returned (.int .i64 0) ∧ Hid ((∃ s', Sto w' d sg D G m s' pg (y.put l2 (Sl.bytesM [some T])) k g mb v n F) ∧ Chg G G w1 w')) := Lib.hid fun w1 hb => by
    have h1 := H2.out.below hb
    have hw := write_z h1.sp (l2 : Int) (by omega) (by omega) (Sl.bytesM [some T]) ⟨Sl.bytesM_len hok, Sl.bytesM_dig hok⟩
    rw [if_pos hth, if_pos hth, Int.toNat_natCast] at hw
    refine hw.mono ?_
    rintro e w' ⟨rfl, ⟨s', hs'⟩, hc⟩
    exact ⟨rfl, Lib.hid ⟨⟨s', h1.chg hc hs'⟩, hc⟩⟩
  have HRO : Hid (∀ w1 v1, Sl.Pg0 w1 gp v1 [some T] → Calls Tryz.prog 101 #[.pointer (some ⟨gp, 0, none⟩)] w1 fun e w' => e = .returned (.int .i64 (rm : Int)) ∧ Below w1.heap.size w1 w') := Lib.hid fun w1 v1 hp => by
    have := Sl.room_any hp
    rw [hrm] at this
    exact this
  have HFR := Lib.hid hfr
  have HGm : Hid (mb ∉ G ∧ mb ∉ D ∧ mb2 ∉ G ∧ ∀ j ∈ Sl.foot gp vp, j ∉ G) := Lib.hid ⟨hmG, hmD, h2G, hpG⟩
  have HL2 := Lib.hid hl2
  have HW1 : Hid (w.heap.size < W1.heap.size) := Lib.hid (lt_of_block hx0)
  have hFr1 : Rms w mb fr := hfr
  clear hth hmG hmD h2G hpG hT hfr hrm hok hl2 HO2 H1 HM1 HP1 HS HK a0 a1 hx0 hFr1 HBK
  generalize strB (Sl.bytesM [some T]) = T5 at *
  go_loopw [10] (fun iv wr => (iv = .int .i64 0 ∧ wr = w2) ∨ (iv = .int .i64 1 ∧ Hid (∃ s', Sto wr d sg D G m s' pg (y.put l2 (Sl.bytesM [some T])) k g mb v n F ∧ Chg (mb :: G) (mb :: G) w wr))) (fun iv _ => 1 - (RowKit.intOf iv).toNat)
  case atStart => exact .inl ⟨rfl, rfl⟩
  case round =>
    rcases hrel with ⟨rfl, rfl⟩ | ⟨rfl, HR⟩
    · have a0 := cell_of_row _ _ 0 _ _ _ HX2.out
      have a1 := cell_of_row _ _ 1 _ _ _ HX2.out
      have g0 := H2.out.st.c0
      simp at a0 a1
      have hlk := HM2.out.look1 l2 gp (Dmf.put_same _ _ _)
      go_upto_region 8 with (go_at_call 111; with_reducible refine HLN.out.mono ?_; rintro e w3 ⟨rfl, rfl⟩)
      go_region_held3 (fun u : World => u.cell? ⟨w.heap.size, 0, none⟩ = some (.pointer (some ⟨g, 0, none⟩)) ∧ u.cell? ⟨g, 0, none⟩ = some (.pointer (some ⟨sg, 0, none⟩))) ((first
          | with_reducible exact ⟨a0, g0⟩
          | go_keep)) (first
        | (go_at_call 106; refine (HBY.out _ (by exact (Below.refl _ _).drew)).mono ?_; rintro e w4 ⟨rfl, hb4⟩; have HB4 : Hid (Below wr.heap.size wr w4) := Lib.hid ((Below.refl _ _).drew.trans (by exact hb4)); have a0 := (HB4.out.cell (p := ⟨w.heap.size, 0, none⟩) (lt_of_block HX2.out)).trans a0; have g0 := (H2.out.below HB4.out).st.c0)
        | (go_at_call 36; refine (HWR.out _ HB4.out).mono ?_; rintro e w5 ⟨rfl, HS5⟩; have hx5 := (HS5.out.2.block w.heap.size (by have := HB4.out.size; have := lt_of_block HX2.out; omega) (fun e => absurd (HG.out _ e) (Nat.lt_irrefl _))).trans ((HB4.out.block _ (lt_of_block HX2.out)).trans HX2.out); have a0 := cell_of_row _ _ 0 _ _ _ hx5; simp at a0; obtain ⟨⟨s5, h5⟩, -⟩ := HS5.out; have g0 := h5.st.c0; have g2 := h5.st.c2))
      all_goals (
        obtain ⟨⟨s6, h6⟩, hc6⟩ := HS5.out
        have hz4 := HB4.out.size
        have HC6 : Hid (Chg (mb :: G) (mb :: G) w w5) := Lib.hid ((Chg.of_below (HB01.out.trans ((HB2.out.trans (HB4.out.mono HB2.out.size)).mono HB01.out.size))).trans ⟨hc6.os, hc6.tape, hc6.output, hc6.size, fun j hj hn => hc6.block j hj (fun e => hn (List.mem_cons_of_mem _ e)), fun _ h => .inl h⟩)
        have H6 := Lib.hid h6
        have HP6 : Hid (Sl.Pg0 w5 gp vp [some T]) := Lib.hid ((HP2.out.below HB4.out).stay (F := G) (F' := G) ⟨hc6.os, hc6.tape, hc6.output, hc6.size, hc6.block, hc6.fresh⟩ HGm.out.2.2.2)
        have hr4 := ((HFR.out.below HB01.out).below HB2.out).below HB4.out
        have HR6 : Hid (Rms w5 mb fr) := Lib.hid (hr4.same (hc6.block mb hr4.lt HGm.out.1))
        have HX5 := Lib.hid hx5
        clear h6 h5 hc6 hz4 hr4 hx5 g0 hlk HS5
        go_wp2_with fail
        go_region_law (first
          | (go_simp; go_at_call 101; refine (HRO.out _ vp (by exact HP6.out.below (Below.refl _ _).drew)).mono ?_; rintro e w6 ⟨rfl, hb6⟩; have HB6 : Hid (Below w5.heap.size w5 w6) := Lib.hid ((Below.refl _ _).drew.trans (by exact hb6)); obtain ⟨w7, hrun7, hm7, ho7⟩ := (HR6.out.below HB6.out).store l2 rm HL2.out; have a0 := (HB6.out.cell (p := ⟨w.heap.size, 0, none⟩) (lt_of_block HX5.out)).trans a0; have g2 := (H6.out.below HB6.out).st.c2))
        all_goals (
          have hown := (H6.out.below HB6.out).own_ne
          have hmb : ∃ es c, w6.heap[mb]? = some (.map es c) := (HR6.out.below HB6.out).isMap
          have h7 : Sto w7 d sg D G m s6 pg (y.put l2 (Sl.bytesM [some T])) k g mb v n F := (H6.out.below HB6.out).stayB (K := [mb]) (K' := [mb]) ⟨ho7.os, ho7.tape, ho7.output, ho7.size, fun j hj hn => ho7.block j hj (fun e => hn (by rw [e]; exact List.mem_singleton.2 rfl)), fun _ h => .inl h⟩
            (fun j hj => by cases List.mem_singleton.1 hj; exact .inl hmb)
            (fun j hj e => by cases List.mem_singleton.1 e; exact HGm.out.2.1 hj)
            (fun j hj e => by cases List.mem_singleton.1 e; exact HGm.out.1 hj)
            (fun e => by
              have e := List.mem_singleton.1 e
              obtain ⟨es, c, hb⟩ := hmb
              rw [← e, (H6.out.below HB6.out).st.row] at hb; cases hb)
            (fun b hb e => by
              have e := List.mem_singleton.1 e
              obtain ⟨es, c, hbb⟩ := hmb
              obtain ⟨-, cur, hh⟩ := hown b hb
              rw [e, hbb] at hh; cases hh)
          have H7 : Hid (∃ s', Sto w7 d sg D G m s' pg (y.put l2 (Sl.bytesM [some T])) k g mb v n F ∧ Chg (mb :: G) (mb :: G) w w7) := Lib.hid ⟨s6, h7, HC6.out.trans ((Chg.of_below HB6.out).trans ⟨ho7.os, ho7.tape, ho7.output, ho7.size, fun j hj hn => ho7.block j hj (fun e => hn (by rw [e]; exact List.mem_cons_self ..)), fun _ h => .inl h⟩)⟩
          clear h7 hown hmb hm7 ho7 hrun7 a0 g2
          go_wp2_with fail
          go_roundw
          case rel => exact .inr ⟨by go_num, H7⟩
          case measure => simp [RowKit.intOf]))
    · go_wp2_with fail
      go_end0
      exact ⟨rfl, HR.out⟩
end
end Go.Proofs.YtmbecjlioogbhaaGreatDoor
end
section
/-! A short thing is added to a store without parts. -/
set_option maxRecDepth 20000
set_option linter.unusedSimpArgs false
namespace Go.Proofs.YtmbecjlioogbhaaGreatDoor
open Go.RowKit

section
variable {w w' : World} {d sg pg k g mb : Nat} {D G : List Nat} {m : Dsk} {s : Sp} {y : Xv} {F : Nat → Nat}
set_option maxHeartbeats 3200000 in
theorem Sto.add0 (h : Sto w d sg D G m s pg y k g mb (.slice none 0 0) 0 F) (hr : Rms w mb (fun _ => none)) (hmG : mb ∉ G) (hmD : mb ∉ D) (hh : y.now 0 = head0) (l1 l2 : Nat) (hl1 : gapF (nn y.now) 512 0 = some l1) (hl2 : gapF (nn (partY y F l1).now) 512 0 = some l2) (hcn : Bi.cnt (nn y.now) 512 ≤ 500) (S : ByteArray) (ds : List Nat) (hS : IsS S ds) (hd : ds.length ≤ 479) :
    Calls Tryz.prog 24 #[.pointer (some ⟨g, 0, none⟩), .string S] w fun e w' => e = .returned (.tuple #[.int .i64 1, .int .i64 0]) ∧ ∃ s' y' v' F', Sto w' d sg D G m s' pg y' k g mb v' 1 F' ∧ (∀ q, nn y'.now q = true ↔ nn y.now q = true ∨ q = 0 ∨ q = l1 ∨ q = l2) ∧ (∀ b, b < w.heap.size → b ∉ G → b ≠ g → b ≠ mb → w'.heap[b]? = w.heap[b]?) ∧ w'.os = w.os ∧ w'.tape = w.tape ∧ w'.output = w.output ∧ w.heap.size ≤ w'.heap.size := by
  have h0 : thX y.now 0 = true := by
    rw [show (0 : Int) = ((0 : Nat) : Int) from rfl, th_nat (by omega)]
    unfold nn
    rw [hh]; rfl
  have hsz := hS.size
  have HRF := Lib.hid h.st.refusal
  have hba := h.st.bare
  rw [show bareN F 0 = 0 from by have := bare_all (F := F) (n := 0) (fun j hj => by omega); simpa using this, show (((0 : Nat) : Int) + 1) = 1 from rfl] at hba
  have HBA := Lib.hid hba
  have HRO : Hid (∀ w1, Below w.heap.size w w1 → Calls Tryz.prog 52 #[.pointer (some ⟨g, 0, none⟩), .int .i64 (S.size : Int)] w1 fun e w' => e = .returned (.int .i64 (-1)) ∧ Below w1.heap.size w1 w') := Lib.hid fun w1 hb => (h.below hb).st.roomy0 (hr.below hb) _
  have HLK : Hid (∀ w1, Below w.heap.size w w1 → Calls Tryz.prog 53 #[.pointer (some ⟨g, 0, none⟩), .int .i64 1, .int .i64 (-1), .int .i64 (S.size : Int)] w1 fun e w' => e = .returned (.bool false) ∧ Below w1.heap.size w1 w') := Lib.hid fun w1 hb => by
    have hl := (h.below hb).lacks 1 (-1) S.size (by omega)
    have e1 : needP 0 1 (-1) S.size = 2 := by unfold needP pagesForN; rw [if_pos (by omega)]; rfl
    rw [e1, show decide ((512 : Int) - (Bi.cnt (nn y.now) 512 : Nat) < ((2 : Nat) : Int)) = false from decide_eq_false (by omega)] at hl
    exact hl
  have HDK : Hid (∀ w1, Below w.heap.size w w1 → Calls Tryz.prog 54 #[.pointer (some ⟨g, 0, none⟩)] w1 fun e w' => ∃ mb2, e = .returned (.agg #[.pointer (some ⟨g, 0, none⟩), .map (some mb2)]) ∧ Dms w' mb2 (fun _ => none) ∧ w1.heap.size ≤ mb2 ∧ Below w1.heap.size w1 w') := Lib.hid fun w1 _ => desk_any g w1
  have HSU : Hid (∀ w1 mb2, Below w.heap.size w w1 → Calls Tryz.prog 55 #[.agg #[.pointer (some ⟨g, 0, none⟩), .map (some mb2)], .int .i64 1, .int .i64 (-1)] w1 fun e w' => e = .returned (.int .i64 0) ∧ Below w1.heap.size w1 w') := Lib.hid fun w1 mb2 hb => (h.below hb).deskSure0 hh mb2
  have hGL := kin_lt h.sp.kinG
  have hDL := kin_lt h.sp.kinF
  have hl25 : l2 < 512 := by have := (gapF_lt hl2).1; omega
  have HLY : Hid (∀ w1 mb2, Below w.heap.size w w1 → Dms w1 mb2 (fun _ => none) → w.heap.size ≤ mb2 → Calls Tryz.prog 56 #[.agg #[.pointer (some ⟨g, 0, none⟩), .map (some mb2)], .int .i64 1, .int .i64 (-1), .string S] w1 fun e w' => e = .returned (.tuple #[]) ∧
      ((∀ b cs, w1.heap[b]? = some (.cells cs 106 (0, 0)) → w.heap.size ≤ b → w'.heap[b]? = w1.heap[b]?) ∧ Hid (Calls Tryz.prog 57 #[.agg #[.pointer (some ⟨g, 0, none⟩), .map (some mb2)]] w' fun e w2 => e = .returned (.tuple #[]) ∧ ∃ s' y' v' F', Sto w2 d sg D G m s' pg y' k g mb v' 1 F' ∧ (∀ q, nn y'.now q = true ↔ nn y.now q = true ∨ q = 0 ∨ q = l1 ∨ q = l2) ∧ (∀ b, b < w.heap.size → b ∉ G → b ≠ g → b ≠ mb → w2.heap[b]? = w.heap[b]?) ∧ w2.os = w.os ∧ w2.tape = w.tape ∧ w2.output = w.output ∧ w.heap.size ≤ w2.heap.size))) := Lib.hid fun w1 mb2 hb hm hm2 => by
    have hmb := hr.lt
    refine ((h.below hb).lay0 hm (fun e => by have := hGL mb2 e; omega) (fun e => by have := hDL mb2 e; omega) l1 l2 hl1 h0 hl2 S ds hS hd).mono ?_
    rintro e w2 ⟨rfl, s', y', v', F', gp, vp, hs, hdm, hpg, hft, hnn, hfr, ho1, ho2, ho3, hz3⟩
    refine ⟨rfl, fun b cs hbx hbw => hfr b _ hbx (fun e => by have := hGL b e; omega) (fun e => by have := h.st.lt; omega) (fun e => ?_), Lib.hid ?_⟩
    · obtain ⟨es, c, hb3⟩ := hm.isMap
      rw [← e, hbx] at hb3; cases hb3
    have hth : thX y'.now (l2 : Int) = true := by rw [th_nat hl25]; exact (hnn l2).2 (.inr (.inr (.inr rfl)))
    have hr1 := hr.below hb
    obtain ⟨es, c, hmp⟩ := hr1.isMap
    have hmg : mb ≠ g := fun e => by
      rw [e, (h.below hb).st.row] at hmp; cases hmp
    have hr2 := hr1.same (hfr mb _ hmp hmG hmg (by omega))
    refine (hs.clear0 hdm hpg hl25 hth ⟨_, hr2⟩ hmG hmD (fun e => by have := hGL mb2 e; omega) (fun j hj => (hft j hj).1) ?_).mono ?_
    · rw [strB_size]
      unfold recB
      rw [if_pos rfl]
      simp
      omega
    · rintro e w3 ⟨rfl, s3, h3, hc3⟩
      refine ⟨rfl, s3, _, v', F', h3, fun q => ?_, fun b hb1 hbG hbg hbm => ?_, hc3.os.trans (ho1.trans hb.os), hc3.tape.trans (ho2.trans hb.tape), hc3.output.trans (ho3.trans hb.output), by have := hc3.size; have := hb.size; omega⟩
      rotate_left
      · have hbs := hb.size
        have q1 := hb.block b hb1
        obtain ⟨ob, hob⟩ : ∃ ob, w1.heap[b]? = some ob := ⟨w1.heap[b], Array.getElem?_eq_getElem (by omega)⟩
        have q2 := hfr b _ hob hbG hbg (by omega)
        exact (hc3.block b (by omega) (fun e => (List.mem_cons.1 e).elim hbm hbG)).trans (q2.trans q1)
      show (!(if q = l2 then Sl.bytesM [some (strB (recB ds []))] else y'.now q).isEmpty) = true ↔ _
      by_cases e : q = l2
      · rw [if_pos e]
        refine ⟨fun _ => .inr (.inr (.inr e)), fun _ => ?_⟩
        have hl := Sl.bytesM_len hpg.ok
        cases hz : Sl.bytesM [some (strB (recB ds []))] with
        | nil => rw [hz] at hl; cases hl
        | cons a b => rfl
      · rw [if_neg e]; exact hnn q
  have hszI : (S.size : Int) ≤ 479 := by omega
  have d1 : decide ((16384 : Int) < (S.size : Int)) = false := decide_eq_false (by omega)
  have d2 : decide (16384 < S.size) = false := decide_eq_false (by omega)
  clear h hr hmG hmD hh hl1 hl2 hcn hS hd h0 hsz hba hGL hDL hl25
  go_enter Tryz.func24, Tryz.ntmps24
  go_upto_region 9 with (first
    | (go_at_call 42; with_reducible refine HRF.out.mono ?_; rintro e w1 ⟨rfl, rfl⟩)
    | (go_at_call 51; with_reducible refine HBA.out.mono ?_; rintro e w2 ⟨rfl, hb2⟩; have HB2 := Lib.hid hb2; clear hb2)
    | (go_at_call 52; with_reducible refine (HRO.out _ HB2.out).mono ?_; rintro e w3 ⟨rfl, hb3⟩; have HB3 := Lib.hid (HB2.out.trans (hb3.mono HB2.out.size)); clear hb3)
    | (go_at_call 53; with_reducible refine (HLK.out _ HB3.out).mono ?_; rintro e w4 ⟨rfl, hb4⟩; have HB4 := Lib.hid (HB3.out.trans (hb4.mono HB3.out.size)); clear hb4))
  go_upto_region 10 with (go_at_call 54; with_reducible refine (HDK.out _ HB4.out).mono ?_; rintro e w5 ⟨mb2, rfl, hm5, hm2, hb5⟩; have HB5 := Lib.hid (HB4.out.trans (hb5.mono HB4.out.size)); have HM5 := Lib.hid hm5; have HM2 : Hid (w.heap.size ≤ mb2) := Lib.hid (by have := HB4.out.size; omega); clear hm5 hm2 hb5)
  have hb6 : Below w5.heap.size w5 (w5.alloc (.cells #[.pointer (some ⟨g, 0, none⟩), .map (some mb2)] 106)) := (Below.refl _ _).alloc (Nat.le_refl _) _
  have HB6 := Lib.hid (HB5.out.trans (hb6.mono HB5.out.size))
  have HM6 := Lib.hid (HM5.out.below hb6)
  have HX6 := Lib.hid (heap_alloc_new w5 (.cells #[.pointer (some ⟨g, 0, none⟩), .map (some mb2)] 106))
  have HZ5 := Lib.hid HB5.out.size
  clear hb6 HM5
  generalize w5.alloc (.cells #[.pointer (some ⟨g, 0, none⟩), .map (some mb2)] 106) = w6 at *
  have a0 := cell_of_row _ _ 0 _ _ _ HX6.out
  have a1 := cell_of_row _ _ 1 _ _ _ HX6.out
  simp at a0 a1
  go_upto_region 13 with (go_at_call 55; with_reducible refine (HSU.out _ mb2 HB6.out).mono ?_; rintro e w7 ⟨rfl, hb7⟩; have HB7 := Lib.hid (HB6.out.trans (hb7.mono HB6.out.size)); have HM7 := Lib.hid (HM6.out.below hb7); have HX7 := Lib.hid ((hb7.block _ (lt_of_block HX6.out)).trans HX6.out); have a0 := cell_of_row _ _ 0 _ _ _ HX7.out; have a1 := cell_of_row _ _ 1 _ _ _ HX7.out; simp at a0 a1; clear hb7)
  go_upto_region 14 with (go_at_call 56; with_reducible refine (HLY.out _ mb2 HB7.out HM7.out HM2.out).mono ?_; rintro e w8 ⟨rfl, hfr8, HC8⟩; have hx8 := (hfr8 _ _ HX7.out HZ5.out).trans HX7.out; have a0 := cell_of_row _ _ 0 _ _ _ hx8; have a1 := cell_of_row _ _ 1 _ _ _ hx8; simp at a0 a1)
  go_wp2_with (go_at_call 57; with_reducible refine HC8.out.mono ?_; rintro e w9 ⟨rfl, HE9⟩; have HE := Lib.hid HE9; clear HE9)
  go_ret2
  exact ⟨rfl, HE.out⟩
end
end Go.Proofs.YtmbecjlioogbhaaGreatDoor
end
section
/-! A store that is committed, on a new disk. -/
set_option maxRecDepth 20000
set_option linter.unusedSimpArgs false
namespace Go.Proofs.YtmbecjlioogbhaaGreatDoor
open Go.RowKit

theorem first_needX : needX (Xv.new.put 0 head0) 4 = 3 := by kernel_rfl
theorem first_room {w : World} {d sg pg : Nat} {D G : List Nat} {m : Dsk} {s : Sp} (h : Spz w d sg D G m s pg (Xv.new.put 0 head0) 0) (hpg : 8 ≤ pg) : needS s ≤ (freeL s).length := by
  rw [← need_eq h.sim h.inv.sp h.secs, first_needX]
  have h1 := free_len h.inv.sp h.od
  have h2 := h.hl0 rfl
  omega
section
variable {w w' : World} {d sg pg k g mb n : Nat} {D G : List Nat} {m : Dsk} {s : Sp} {y : Xv} {v : Value} {F : Nat → Nat}
set_option maxHeartbeats 1600000 in
theorem Sto.commitOk (h : Sto w d sg D G m s pg y k g mb v n F) (hk : k + 1 ≤ 1000) (hN : needS s ≤ (freeL s).length) (word : Int) (hw : 0 ≤ word ∧ word ≤ 2147483647) :
    Calls Tryz.prog 16 #[.pointer (some ⟨g, 0, none⟩), .int .i64 word] w fun e w' => e = .returned (.int .i64 0) ∧ ∃ m' D' G', Sto w' d sg D' G' m' (commS s (nextR s word)) pg (y.commit word) (k + 1) g mb v n F ∧ Chg (D ++ G) (D' ++ G') w w' := by
  have c0 := h.st.c0
  have HR := Lib.hid h.st.refusal
  have HC := Lib.hid ((commit_z h.sp hk word).mono (R' := fun e w' => e = .returned (.int .i64 0) ∧ Hid (∃ m' D' G', Sto w' d sg D' G' m' (commS s (nextR s word)) pg (y.commit word) (k + 1) g mb v n F ∧ Chg (D ++ G) (D' ++ G') w w')) (by
    rintro e w' ⟨E, rfl, hE, -, hz⟩
    have hE0 : E = 0 := by
      rcases hE with ⟨h1, _⟩ | ⟨_, h1, _⟩ | ⟨_, _, h1⟩
      · exact absurd hw h1
      · omega
      · exact h1
    subst hE0
    obtain ⟨m', D', G', hs, hc⟩ := hz rfl
    have hgl := h.st.lt
    have hout : ∀ b, b < w.heap.size → b ∉ D → b ∉ G → b ∉ D' ++ G' := fun b hb h1 h2 e => (hc.fresh b e).elim (fun e => (List.mem_append.1 e).elim h1 h2) (fun e => by omega)
    have hown := fun b hb => (World.ownsRow.lt h.st.own b hb).2
    refine ⟨rfl, Lib.hid ⟨m', D', G', ⟨hs, ⟨(hc.block g hgl (fun e => (List.mem_append.1 e).elim h.ad h.ag)).trans h.st.row, own_other h.st.own fun b hb => hc.block b (hown b hb) (fun e => (List.mem_append.1 e).elim (h.avd b hb) (h.av b hb)), h.st.n64⟩, fun e => hout g hgl h.ad h.ag (List.mem_append.2 (.inr e)), fun b hb e => hout b (hown b hb) (h.avd b hb) (h.av b hb) (List.mem_append.2 (.inr e)), fun e => hout g hgl h.ad h.ag (List.mem_append.2 (.inl e)), fun b hb e => hout b (hown b hb) (h.avd b hb) (h.av b hb) (List.mem_append.2 (.inl e))⟩, hc⟩⟩))
  clear h hk hN hw
  go_enter Tryz.func16, Tryz.ntmps16
  go_wp2_with (first
    | (go_at_call 42; with_reducible refine HR.out.mono ?_; rintro e w1 ⟨rfl, rfl⟩)
    | (go_at_call 43; with_reducible refine HC.out.mono ?_; rintro e w2 ⟨rfl, HS2⟩))
  go_ret
  exact ⟨rfl, HS2.out⟩
end
set_option maxHeartbeats 3200000 in
/-- A new store on a new disk. -/
theorem fresh_any (pg : Nat) (h8 : 8 ≤ pg) (h5 : pg ≤ 512) (w : World) : Calls Tryz.prog 20 #[.int .i64 (pg : Int)] w fun e w' => ∃ d g sg D G m s mb, e = .returned (.tuple #[.pointer (some ⟨d, 0, none⟩), .pointer (some ⟨g, 0, none⟩)]) ∧
    Sto w' d sg D G m s pg ((Xv.new.put 0 head0).commit 0) 1 g mb (.slice none 0 0) 0 (fun _ => 0) ∧ Rms w' mb (fun _ => none) ∧ Below w.heap.size w w' ∧ mb ∉ G ∧ mb ∉ D ∧ (∀ j ∈ D ++ G, w.heap.size ≤ j) ∧ w.heap.size ≤ g ∧ w.heap.size ≤ mb := by
  have HND := Lib.hid (new_any (4 * pg) w (by omega) (by omega))
  have hcast : ((4 * pg : Nat) : Int) = 4 * (pg : Int) := by omega
  rw [hcast] at HND
  have hpI : (pg : Int) ≤ 512 := by omega
  have hp0 : (8 : Int) ≤ (pg : Int) := by omega
  have H8 := Lib.hid h8
  have H5 := Lib.hid h5
  clear hcast h8 h5
  go_enter Tryz.func20, Tryz.ntmps20
  go_upto_region 2 with (go_at_call 33; with_reducible refine HND.out.mono ?_; rintro e w1 ⟨d, D1, rfl, hD1, hF1, hb1⟩)
  have HFM := Lib.hid (format_new (by have := H8.out; omega) H5.out hD1)
  have HB1 := Lib.hid hb1
  have HF1 := Lib.hid hF1
  clear hb1 hF1 hD1
  go_upto_region 3 with (go_at_call 34; with_reducible refine HFM.out.mono ?_; rintro e w2 ⟨sg, D2, G2, m2, rfl, hr2, hc2, hs2, hd2, hro2⟩)
  have HZ2 := Lib.hid (spz_new hr2 hs2 hd2 hro2)
  have HC2 := Lib.hid hc2
  clear hr2 hc2 hs2 hd2 hro2 HFM
  have HSF := Lib.hid (format_any HZ2.out (fun l => rfl))
  go_upto_region 4 with (go_at_call 30; with_reducible refine HSF.out.mono ?_; rintro e w3 ⟨g, mb, s3, rfl, h3, hm3, hmb3, hg3, hc3⟩)
  have H3 := Lib.hid h3
  have HM3 := Lib.hid hm3
  have HG3 := Lib.hid hg3
  have HX3 : Hid (w2.heap.size ≤ mb ∧ Chg G2 G2 w2 w3) := Lib.hid ⟨hmb3, hc3⟩
  have HCO := Lib.hid (h3.commitOk (by omega) (first_room h3.sp H8.out) 0 ⟨by omega, by omega⟩)
  clear h3 hm3 hmb3 hg3 hc3 HSF
  go_wp2_with (go_at_call 16; with_reducible refine HCO.out.mono ?_; rintro e w4 ⟨rfl, m4, D4, G4, h4, hc4⟩)
  go_ret2
  have hb1 := HB1.out
  have hc2 := HC2.out
  have hc3 := HX3.out.2
  have hF1 := HF1.out
  have k1 := hb1.size
  have k2 := hc2.size
  have k3 := hc3.size
  have hDG : ∀ j ∈ D2 ++ G2, w.heap.size ≤ j := fun j hj => (hc2.fresh j hj).elim (fun e => hF1 j e) (fun e => by omega)
  have hDG2 : ∀ j ∈ D2 ++ G2, j < w2.heap.size := fun j hj => (List.mem_append.1 hj).elim (kin_lt HZ2.out.kinF j) (kin_lt HZ2.out.kinG j)
  have hmb := HX3.out.1
  have hml := HM3.out.lt
  have hout : ∀ {L : List Nat}, (∀ {j}, j ∈ L → j ∈ D4 ++ G4) → mb ∉ L := fun hL e => by
    rcases hc4.fresh mb (hL e) with e | e
    · have := hDG2 mb e; omega
    · omega
  refine ⟨d, g, sg, D4, G4, m4, _, mb, rfl, h4, HM3.out.same (hc4.block mb HM3.out.lt (fun e => by have := hDG2 mb e; omega)), ⟨hc4.os.trans (hc3.os.trans (hc2.os.trans hb1.os)), hc4.tape.trans (hc3.tape.trans (hc2.tape.trans hb1.tape)), hc4.output.trans (hc3.output.trans (hc2.output.trans hb1.output)), by have := hc4.size; omega, fun j hj => ?_⟩, hout (fun e => List.mem_append.2 (.inr e)), hout (fun e => List.mem_append.2 (.inl e)), fun j hj => (hc4.fresh j hj).elim (hDG j) (fun e => by omega), by have := HG3.out; omega, by omega⟩
  refine (hc4.block j (by omega) (fun e => by have := hDG j e; omega)).trans ((hc3.block j (by omega) (fun e => by have := hDG j (List.mem_append.2 (.inr e)); omega)).trans ((hc2.block j (by omega) (fun e => by have := hF1 j e; omega)).trans (hb1.block j hj)))
end Go.Proofs.YtmbecjlioogbhaaGreatDoor
end
section
/-! The chapter's example. -/
set_option maxRecDepth 20000
set_option linter.unusedSimpArgs false
namespace Go.Proofs.YtmbecjlioogbhaaGreatDoor
open Go.RowKit

abbrev yF : Xv := (Xv.new.put 0 head0).commit 0
theorem yF_nn (q : Nat) : nn yF.now q = decide (q = 0) := by
  show (!(if q = 0 then head0 else []).isEmpty) = _
  by_cases e : q = 0
  · rw [if_pos e, decide_eq_true e]; rfl
  · rw [if_neg e, decide_eq_false e]; rfl
theorem gap_skip {f : Nat → Bool} {k i : Nat} (h : f i = true) : gapF f (k + 1) i = gapF f k (i + 1) := by
  show (if f i then gapF f k (i + 1) else some i) = _
  rw [h]; rfl
theorem gap_here {f : Nat → Bool} {k i : Nat} (h : f i = false) : gapF f (k + 1) i = some i := by
  show (if f i then gapF f k (i + 1) else some i) = _
  rw [h]; rfl
theorem yF_gap1 : gapF (nn yF.now) 512 0 = some 1 := by
  rw [show (512 : Nat) = 510 + 1 + 1 from rfl, gap_skip (by rw [yF_nn]; rfl), gap_here (by rw [yF_nn]; rfl)]
theorem yF_nn2 (F : Nat → Nat) (q : Nat) : nn (partY yF F 1).now q = decide (q = 0 ∨ q = 1) := by
  have hz1 : zpart.isEmpty = false := by
    cases hz : zpart with
    | nil => have := zpart_ok.1; rw [hz] at this; cases this
    | cons a b => rfl
  show (!(if q = 0 then pageT (headB 1 fun i => grewF F 0 1 (i * 129)) else if q = 1 then zpart else if q = 0 then head0 else []).isEmpty) = _
  by_cases e : q = 0
  · rw [if_pos e, decide_eq_true (.inl e)]; unfold pageT headB; rfl
  · rw [if_neg e]
    by_cases e1 : q = 1
    · rw [if_pos e1, hz1, decide_eq_true (.inr e1)]; rfl
    · rw [if_neg e1, if_neg e, decide_eq_false (fun h => h.elim e e1)]; rfl
theorem yF_gap2 (F : Nat → Nat) : gapF (nn (partY yF F 1).now) 512 0 = some 2 := by
  rw [show (512 : Nat) = 509 + 1 + 1 + 1 from rfl, gap_skip (by rw [yF_nn2]; rfl), gap_skip (by rw [yF_nn2]; rfl), gap_here (by rw [yF_nn2]; rfl)]
theorem cnt_three {f : Nat → Bool} (h : ∀ q, f q = true ↔ q = 0 ∨ q = 1 ∨ q = 2) : Bi.cnt f 512 = 3 := by
  have h3 := Bi.cnt_skip (f := f) (i := 3) (j := 512) (by omega) (fun x hx _ => by
    cases e : f x with
    | false => rfl
    | true => have := (h x).1 e; omega)
  rw [h3]
  show 0 + (f 0).toNat + (f 1).toNat + (f 2).toNat = 3
  rw [(h 0).2 (.inl rfl), (h 1).2 (.inr (.inl rfl)), (h 2).2 (.inr (.inr rfl))]
  rfl
set_option maxHeartbeats 3200000 in
theorem lives_any (w : World) : Calls Tryz.prog 14 #[] w fun e w' => e = .returned (.bool true) ∧ Below w.heap.size w w' := by
  have hf := fresh_any 32 (by decide) (by decide) w
  rw [show ((32 : Nat) : Int) = 32 from rfl] at hf
  have HF := Lib.hid (hf.mono (R' := fun e w' => ∃ d g, e = .returned (.tuple #[.pointer (some ⟨d, 0, none⟩), .pointer (some ⟨g, 0, none⟩)]) ∧ Hid (Calls Tryz.prog 24 #[.pointer (some ⟨g, 0, none⟩), .string ⟨#[120]⟩] w' fun e w2 => e = .returned (.tuple #[.int .i64 1, .int .i64 0]) ∧ ∃ sg, w2.cell? ⟨g, 0, none⟩ = some (.pointer (some ⟨sg, 0, none⟩)) ∧ Hid (Below w.heap.size w w2) ∧ Hid (Calls Tryz.prog 23 #[.pointer (some ⟨sg, 0, none⟩)] w2 fun e w3 => e = .returned (.int .i64 3) ∧ Below w2.heap.size w2 w3))) (by
    rintro e w' ⟨d, g, sg, D, G, m, s, mb, rfl, hs, hr, hbw, hG, hD, hDG, hgl, hml⟩
    refine ⟨d, g, rfl, Lib.hid ((hs.add0 hr hG hD rfl 1 2 yF_gap1 (yF_gap2 _) ?_ ⟨#[120]⟩ [120] ⟨rfl, by decide⟩ (by decide)).mono ?_)⟩
    · have := cnt_lone (f := nn yF.now) (x := 0) (fun p hp => by rw [yF_nn] at hp; exact of_decide_eq_true hp) 512
      have h2 : (decide (0 < 512)).toNat = 1 := rfl
      rw [h2] at this
      exact Nat.le_trans this (by decide)
    · rintro e w2 ⟨rfl, s', y', v', F', hs2, hn, hbk, ho, ht, hp, hz⟩
      refine ⟨rfl, sg, hs2.st.c0, Lib.hid (hbw.trans ⟨ho, ht, hp, hz, fun j hj => hbk j (by have := hbw.size; omega) (fun e => by have := hDG j (List.mem_append.2 (.inr e)); omega) (by omega) (by omega)⟩), Lib.hid ((len_z hs2.sp).mono ?_)⟩
      rintro e w3 ⟨rfl, hb3⟩
      rw [cnt_three (f := nn y'.now) fun q => by rw [hn q, yF_nn q, decide_eq_true_iff]; omega]
      exact ⟨rfl, hb3⟩))
  clear hf
  go_enter Tryz.func14, Tryz.ntmps14
  go_upto_region 2 with (go_at_call 20; with_reducible refine HF.out.mono ?_; rintro e w1 ⟨d, g, rfl, HA⟩)
  go_upto_region 3 with (go_at_call 24; with_reducible refine HA.out.mono ?_; rintro e w2 ⟨rfl, sg, c0, HB2, HL⟩)
  have HSP : Hid (Calls Tryz.prog 21 #[.pointer (some ⟨g, 0, none⟩)] w2 fun e w' => e = .returned (.pointer (some ⟨sg, 0, none⟩)) ∧ w2 = w') := Lib.hid (by
    clear HF HA HL
    go_enter Tryz.func21, Tryz.ntmps21
    go_wp2_with fail
    go_ret
    exact ⟨rfl, rfl⟩)
  go_wp2_with (first
    | (go_at_call 21; with_reducible refine HSP.out.mono ?_; rintro e w3 ⟨rfl, rfl⟩)
    | (go_at_call 23; with_reducible refine HL.out.mono ?_; rintro e w4 ⟨rfl, hb4⟩; have HB4 := Lib.hid (HB2.out.trans (hb4.mono HB2.out.size)); clear hb4))
  go_ret
  exact ⟨rfl, HB4.out⟩
end Go.Proofs.YtmbecjlioogbhaaGreatDoor
end
section
/-! StoreNils: its walk. -/
set_option maxRecDepth 20000
set_option linter.unusedSimpArgs false
set_option linter.unusedVariables false
namespace Go.Proofs.YtmbecjlioogbhaaGreatDoor
open Go.RowKit Go.Shelf
attribute [local go_sem] Oper.semAt_some

/-- '[]byte(s)', with its row. -/
theorem conv_own (w : World) (b : List Nat) (hd : ∀ x ∈ b, x < 256) (hn : b.length ≤ 1099511627776) :
    ∃ cap W' cs fr, (convert 9 71 (.string (strB b))).run Tryz.prog w = .ok (.slice (some ⟨w.heap.size, 0, none⟩) b.length cap) W' ∧ Below w.heap.size w W' ∧ W'.heap[w.heap.size]? = some (.cells cs 5 fr) ∧ b.length ≤ fr.1 ∧ (∀ i, i < b.length → cs[i]? = some (.int .u8 ((b.getD i 0 : Nat) : Int))) ∧ b.length ≤ cap ∧ cap ≤ 9223372036854775807 := by
  have hrun := run_bytes_of_string (P := Tryz.prog) w 9 71 5 (strB b) Tryz.underlying9 Tryz.underlying71 Tryz.underlying5
  rw [strB_size] at hrun
  have hc1 := grownCap_ge w b.length 0 5
  have hc2 := grownCap_le_maxLen w b.length 0 5 (by unfold maxLen; omega)
  refine ⟨_, _, _, _, hrun, (Below.refl _ _).drew.alloc (Nat.le_refl _) _, Array.getElem?_push_size, ?_, fun i hi => ?_, hc1, by unfold maxLen at hc2; omega⟩
  · show b.length ≤ (bytesRow (strB b) (grownCap w b.length 0 5)).size
    unfold bytesRow
    rw [Array.size_append, Array.size_map]
    have : (strB b).data.size = b.length := strB_size b
    omega
  unfold bytesRow
  have hsz : ((strB b).data.map (fun c => Value.int .u8 (c.toNat : Int))).size = b.length := by
    rw [Array.size_map]; exact strB_size b
  rw [Array.getElem?_append_left (by rw [hsz]; exact hi), Array.getElem?_map, strB_get b i hi]
  have h3 : b.getD i 0 < 256 := by
    rw [List.getD_eq_getElem?_getD, List.getElem?_eq_getElem hi]
    exact hd _ (List.getElem_mem _)
  simp only [Option.map_some]
  rw [UInt8.toNat_ofNat_of_lt' h3]
/-- Behind a store into it. -/
theorem bys_set {w : World} {g i : Nat} {cs : Array Value} {fr : Nat × Nat} {b : List Nat} {x : Nat} (h : w.heap[g]? = some (.cells cs 5 fr)) (hc : ∀ j, j < b.length → cs[j]? = some (.int .u8 ((b.getD j 0 : Nat) : Int))) (hd : ∀ y ∈ b, y < 256) (hx : x < 256) (hi : i < b.length) :
    Bys (w.setCell ⟨g, i, none⟩ (.int .u8 (x : Int))) (some ⟨g, 0, none⟩) (b.set i x).length (b.set i x) := by
  refine ⟨rfl, fun y hy => ?_, fun _ => ⟨g, 0, rfl, fun j hj => ?_⟩⟩
  · rcases List.mem_or_eq_of_mem_set hy with h | h
    · exact hd y h
    · omega
  · rw [List.length_set] at hj
    rw [Nat.zero_add, cell_of_row _ _ _ _ _ _ (show (w.setCell ⟨g, i, none⟩ (.int .u8 (x : Int))).heap[g]? = some (.cells (cs.setIfInBounds i (.int .u8 (x : Int))) 5 fr) by simp [World.setCell, Array.getElem?_modify, h])]
    have hji : j < cs.size := by
      have := hc j hj
      exact (Array.getElem?_eq_some_iff.1 this).1
    by_cases e : j = i
    · subst e
      rw [Array.getElem?_setIfInBounds_self_of_lt (by omega), List.getD_eq_getElem?_getD, List.getElem?_set_self hj]; rfl
    · rw [Array.getElem?_setIfInBounds_ne (Ne.symm e), hc j hj, List.getD_eq_getElem?_getD, List.getD_eq_getElem?_getD, List.getElem?_set_ne (Ne.symm e)]
theorem xor_ne {a b : Nat} (hb : b ≠ 0) : a ^^^ b ≠ a := fun h => by
  have h2 := congrArg (a ^^^ ·) h
  simp only [← Nat.xor_assoc, Nat.xor_self, Nat.zero_xor] at h2
  exact hb h2
theorem head0_zero : headN head0 = 0 := by decide
/-- A head of which another byte than the fifth was changed is none. -/
theorem isHead_set {i x : Nat} (hi : i < 512) (h4 : i ≠ 4) (hx : x ≠ head0.getD i 0) : isHead (head0.set i x) = false := by
  have hn : headN (head0.set i x) = 0 := by
    unfold headN
    rw [List.getD_eq_getElem?_getD, List.getElem?_set_ne h4, ← List.getD_eq_getElem?_getD]
    exact head0_zero
  unfold isHead
  rw [hn]
  refine decide_eq_false fun e => ?_
  have e2 : pageT (headB 0 (headF (head0.set i x))) = head0 := rfl
  rw [e2] at e
  have e3 : head0.getD i 0 = (head0.set i x).getD i 0 := congrArg (fun l => l.getD i 0) e
  rw [List.getD_eq_getElem?_getD (l := head0.set i x), List.getElem?_set_self (by rw [head0_ok.1]; exact hi)] at e3
  exact hx e3.symm
theorem head_fifth (x : Nat) : headN (head0.set 4 x) = x ∧ headF (head0.set 4 x) 0 = 0 := by
  refine ⟨?_, ?_⟩
  · unfold headN
    rw [List.getD_eq_getElem?_getD, List.getElem?_set_self (by rw [head0_ok.1]; omega)]; rfl
  · unfold headF cutV
    have e : (((head0.set 4 x).drop 5).drop (0 * 2)).take 2 = [0, 0] := by
      rfl
    rw [e]; rfl
/-- A head of which a byte was changed isn't opened. -/
theorem open_harm {w : World} {d sg pg k : Nat} {D G : List Nat} {m : Dsk} {s : Sp} {y : Xv} {A x : Nat} (h : Spz w d sg D G m s pg y k) (hy : y.now 0 = head0.set A x) (hA : A < 512) (hx : x ≠ head0.getD A 0) :
    Calls Tryz.prog 29 #[.pointer (some ⟨sg, 0, none⟩)] w fun e w' => e = .returned (.tuple #[.pointer none, .int .i64 13]) ∧ Below w.heap.size w w' := by
  have hth : thX y.now 0 = true := by
    rw [show (0 : Int) = ((0 : Nat) : Int) from rfl, th_nat (by omega), nn_iff, hy]
    intro e
    have := congrArg List.length e
    rw [List.length_set, head0_ok.1] at this
    cases this
  by_cases h4 : A = 4
  · subst h4
    obtain ⟨e1, e2⟩ := head_fifth x
    have h0 : 0 < x := Nat.pos_of_ne_zero fun e => hx (by rw [e]; rfl)
    by_cases h64 : 64 < x
    · exact open_bad h hth (.inl (by rw [hy, e1]; exact h64))
    · cases his : isHead (head0.set 4 x) with
      | false => exact open_bad h hth (.inr (by rw [hy]; exact his))
      | true => exact open_fifth h hth (by rw [hy, e1]; exact h0) (by rw [hy, e1]; omega) (by rw [hy]; exact his) (by rw [hy]; exact e2)
  · exact open_bad h hth (.inr (by rw [hy]; exact isHead_set hA h4 hx))
end Go.Proofs.YtmbecjlioogbhaaGreatDoor
end
section
/-! StoreNils: its walk. -/
set_option maxRecDepth 20000
set_option linter.unusedSimpArgs false
set_option linter.unusedVariables false
namespace Go.Proofs.YtmbecjlioogbhaaGreatDoor
open Go.RowKit Go.Shelf
attribute [local go_sem] Oper.semAt_some

theorem cnt_pos {f : Nat → Bool} (h : f 0 = true) : 0 < Bi.cnt f 512 := by
  have h1 : ∀ n, 0 < Bi.cnt f (n + 1) := fun n => by
    induction n with
    | zero => show 0 < 0 + (f 0).toNat; rw [h]; decide
    | succ n ih => show 0 < Bi.cnt f (n + 1) + (f (n + 1)).toNat; omega
  exact h1 511
theorem head0_th : thX (Xv.new.put 0 head0).now 0 = true := rfl
set_option maxRecDepth 100000 in
set_option maxHeartbeats 12800000 in
theorem nils_any (a b l : Int) (f : Nat) (hf : f < 256) (at_ : Int) (ha0 : -9223372036854775808 ≤ at_) (ha1 : at_ ≤ 9223372036854775807) (by_ : Nat) (hby : by_ < 256) (w : World) :
    Calls Tryz.prog 7 #[.agg #[.int .i64 a, .int .i64 b, .int .i64 l, .int .u8 (f : Int)], .int .i64 at_, .int .u8 (by_ : Int)] w fun e w' => e = .returned (.bool true) ∧ Below w.heap.size w w' := by
  have HLD : Hid (∀ u, Calls Tryz.prog 25 #[.agg #[.int .i64 a, .int .i64 b, .int .i64 l, .int .u8 (f : Int)]] u fun e w' => e = .returned (.string (strB (dataL f (dataN l)))) ∧ Below u.heap.size u w') := Lib.hid fun u => lawData_any a b l f hf u
  obtain ⟨T, hT⟩ : ∃ T, strB (dataL f (dataN l)) = T := ⟨_, rfl⟩
  rw [hT] at HLD
  clear hT
  have HBX : Hid (Below w.heap.size w (w.alloc (.cells #[.int .i64 a, .int .i64 b, .int .i64 l, .int .u8 (f : Int)] 55))) := Lib.hid ((Below.refl _ _).alloc (Nat.le_refl _) _)
  refine (callsIn_wide (n := 5)).1 ?_
  refine callsIn_of_wp_marks Tryz.func7 rfl trivial ?_ rfl
  simp only [Tryz.ntmps7, List.size_toArray, List.length_cons, List.length_nil, Nat.reduceAdd, Nat.reduceSub, Array.replicate_succ, Array.replicate_zero, List.push_toArray, List.append_toArray, List.nil_append, List.cons_append]
  refine wpIn_wide.2 ?_
  go_upto_region 1 with fail
  have hx := heap_alloc_new w (.cells #[.int .i64 a, .int .i64 b, .int .i64 l, .int .u8 (f : Int)] 55)
  generalize w.alloc (.cells #[.int .i64 a, .int .i64 b, .int .i64 l, .int .u8 (f : Int)] 55) = W1 at *
  have x0 := cell_of_row _ _ 0 _ _ _ hx
  have x1 := cell_of_row _ _ 1 _ _ _ hx
  have x2 := cell_of_row _ _ 2 _ _ _ hx
  have x3 := cell_of_row _ _ 3 _ _ _ hx
  simp at x0 x1 x2 x3
  have HX := Lib.hid hx
  go_upto_region 3 with (first
    | (go_at_call 25; with_reducible refine (HLD.out _).mono ?_; rintro e w2 ⟨rfl, hb2⟩; have HB2 := Lib.hid hb2; clear hb2)
    | (go_at_call 24; with_reducible refine (zadd_nil _ _).mono ?_; rintro e w3 ⟨rfl, rfl⟩))
  have hx2 := (HB2.out.block _ (lt_of_block hx)).trans hx
  have HX2 := Lib.hid hx2
  clear x0 x1 x2 x3 hx
  have x1 := cell_of_row _ _ 1 _ _ _ hx2
  simp at x1
  clear hx2
  go_upto_region 4 with (go_at_call 28; with_reducible refine (zget_nil _ _).mono ?_; rintro e w3 ⟨rfl, hb3⟩; have HB3 := Lib.hid (HB2.out.trans (hb3.mono HB2.out.size)); have HX3 := Lib.hid ((hb3.block _ (lt_of_block HX2.out)).trans HX2.out); clear hb3)
  have HZ3 : Hid (W1.heap.size ≤ w3.heap.size) := Lib.hid HB3.out.size
  have hnf : ∀ (v : Array Value) (u : World), (binOp .eql 31 (.func (.func 39) #[] v) .nilFunc).run Tryz.prog u = .ok (.bool false) u := fun _ _ => rfl
  go_wp2_with (go_at_call 9; with_reducible refine (zall_nil _).mono ?_; rintro e w4 ⟨rfl, rfl⟩)
  have HB : Hid (Below w3.heap.size w3 ((w3.alloc (.cells #[.int .i64 0] 3)).alloc (.cells #[.slice none 0 0] 47))) := Lib.hid (((Below.refl _ _).alloc (Nat.le_refl _) _).alloc (by simp) _)
  have HX0 : Hid (((w3.alloc (.cells #[.int .i64 0] 3)).alloc (.cells #[.slice none 0 0] 47)).heap[w3.heap.size]? = some (.cells #[.int .i64 0] 3 (0, 0))) := Lib.hid ((heap_alloc_old _ _ (h := by simp)).trans (heap_alloc_new w3 _))
  have HX1 : Hid (((w3.alloc (.cells #[.int .i64 0] 3)).alloc (.cells #[.slice none 0 0] 47)).heap[w3.heap.size + 1]? = some (.cells #[.slice none 0 0] 47 (0, 0))) := Lib.hid (by
    have := heap_alloc_new (w3.alloc (.cells #[.int .i64 0] 3)) (.cells #[.slice none 0 0] 47); rwa [World.size_alloc] at this)
  clear hnf
  generalize (w3.alloc (.cells #[.int .i64 0] 3)).alloc (.cells #[.slice none 0 0] 47) = V at *
  refine (wpIn_wide (n := 5)).1 (gen_act ?_)
  intro A2 hA2
  refine wpIn_rangeJ rfl (by omega) (gf := 39) (lb := #[.pointer (some ⟨w3.heap.size + 1, 0, none⟩)]) (by rw [hA2]; rfl) trivial (enters_of Tryz.func39 (by kernel_rfl) rfl) (zall_seq 4 (by omega) (w3.heap.size + 1)) (fun _ => rfl)
    (fun j W => j = 0 ∧ Below V.heap.size V W) (below_own V)
    (fun j W h => by show W.cell? _ = _; rw [(h.2.cell (p := ⟨w3.heap.size + 1, 0, none⟩) (Array.getElem?_eq_some_iff.1 HX1.out).1), cell_of_row _ _ 0 _ _ _ HX1.out]; rfl) (fun j u W W' row _ _ _ => trivial) ⟨rfl, Below.refl _ _⟩
    (fun j x a' W => False)
    (fun _ _ _ u W W' row h _ _ => h) (fun _ _ _ _ _ _ hx _ => hx.elim) (fun _ _ _ _ _ _ h => h.elim) ?done2
  case done2 =>
    rintro D j U hD ⟨_, hBU⟩ _ hDD
    have x0 : U.cell? ⟨w3.heap.size, 0, none⟩ = some (.int .i64 0) := by rw [(hBU.cell (p := ⟨w3.heap.size, 0, none⟩) (Array.getElem?_eq_some_iff.1 HX0.out).1), cell_of_row _ _ 0 _ _ _ HX0.out]; rfl
    have HDD := Lib.hid hDD
    have hb3U : Below w3.heap.size w3 U := HB.out.trans (hBU.mono HB.out.size)
    have HXU := Lib.hid ((hb3U.block _ (lt_of_block HX3.out)).trans HX3.out)
    have HBU : Hid (Below w.heap.size w U) := Lib.hid (HBX.out.trans ((HB3.out.trans (hb3U.mono HB3.out.size)).mono HBX.out.size))
    have HXC := Lib.hid x0
    have HDW : Hid (w.heap.size ≤ D) := Lib.hid (by have := HBX.out.size; have := HB3.out.size; have := HB.out.size; omega)
    clear hDD hBU hb3U x0 HX0 HX1 HX3 HX2 HX HB3 HB2 HBX HB hD x1 HZ3
    subst hA2
    go_upto_region 12 with (first
      | (go_at_call 29; with_reducible refine (open_nil _).mono ?_; rintro e w4 ⟨rfl, rfl⟩)
      | (go_at_call 30; with_reducible refine (format_nil _).mono ?_; rintro e w4 ⟨rfl, rfl⟩))
    have hcl : ∀ (i : Nat) (s : In U), s.1.cell? ⟨w.heap.size, i, none⟩ = (#[Value.int .i64 a, .int .i64 b, .int .i64 l, .int .u8 (f : Int)] : Array Value)[i]? := fun i s => by
      rw [s.2.cell (p := ⟨w.heap.size, i, none⟩) (lt_of_block HXU.out), cell_of_row _ _ i _ _ _ HXU.out]
    have l0 : ∀ s : In U, s.1.cell? ⟨w.heap.size, 0, none⟩ = some (.int .i64 a) := fun s => hcl 0 s
    have l1 : ∀ s : In U, s.1.cell? ⟨w.heap.size, 1, none⟩ = some (.int .i64 b) := fun s => hcl 1 s
    have l2 : ∀ s : In U, s.1.cell? ⟨w.heap.size, 2, none⟩ = some (.int .i64 l) := fun s => hcl 2 s
    have l3 : ∀ s : In U, s.1.cell? ⟨w.heap.size, 3, none⟩ = some (.int .u8 (f : Int)) := fun s => hcl 3 s
    have lc : ∀ s : In U, s.1.cell? ⟨w3.heap.size, 0, none⟩ = some (.int .i64 0) := fun s => by
      rw [s.2.cell (p := ⟨w3.heap.size, 0, none⟩) (lt_of_cellY HXC.out)]; exact HXC.out
    have hne := In.some U
    clear hcl
    refine region_in U (by kernel_rfl) (by kernel_rfl) (Below.refl _ _) ?_
    repeat (go_big_quiet_step (first
      | (go_at_call 25; exact Calls.quiet_in (HLD.out _))
      | (go_at_call 31; exact Calls.quiet_in_same (zput_nil _ _ _))
      | (go_at_call 26; exact Calls.quiet_in (zdrop_nil _ _))
      | (go_at_call 16; exact Calls.quiet_in_same (zcommit_nil _ _))
      | (go_at_call 32; exact Calls.quiet_in_same (zabort_nil _))
      | (go_at_call 11; exact Calls.quiet_in (zlen0_nil _))
      | (go_at_call 13; exact Calls.quiet_in (zword_nil _))
      | (go_at_call 21; exact Calls.quiet_in_same (zspace_nil _))))
    refine wpQuiet_nil ?_
    intro w5 hw5
    have HB5 : Hid (Below U.heap.size U w5) := Lib.hid (by
      obtain ⟨⟨wz, hbz⟩, hw''⟩ := hw5
      subst hw''
      exact hbz)
    clear hw5 l0 l1 l2 l3 lc hne
    have HFIN : Hid (∀ w', Below U.heap.size U w' → w'.heap[D]? = some (.deferred (some [])) ∧ Below w.heap.size w (w'.putObj D (.deferred none))) := Lib.hid fun w' hb => by
      have hdl : D < U.heap.size := (Array.getElem?_eq_some_iff.1 HDD.out).1
      have hdw := HDW.out
      refine ⟨(hb.block D hdl).trans HDD.out, (HBU.out.trans (hb.mono HBU.out.size)).trans ⟨rfl, rfl, rfl, by simp [World.putObj], fun k hk => World.putObj_heap_other (by omega)⟩⟩
    have HLV : Hid (∀ w1, Calls Tryz.prog 14 #[] w1 fun e w' => e = .returned (.bool true) ∧ Below w1.heap.size w1 w') := Lib.hid lives_any
    have HND := Lib.hid (new_any 128 w5 (by omega) (by omega))
    rw [show ((128 : Nat) : Int) = 128 from rfl] at HND
    clear HDD HXU HBU HXC HLD HDW
    go_upto_region 15 with (go_at_call 33; with_reducible refine HND.out.mono ?_; rintro e w6 ⟨d, D1, rfl, hD1, hF1, hb6⟩; have HD1 := Lib.hid hD1; have HF1 := Lib.hid hF1; have HB6 := Lib.hid hb6; clear hD1 hF1 hb6)
    have HFM := Lib.hid (format_new (pg := 32) (by omega) (by omega) HD1.out)
    go_upto_region 16 with (go_at_call 34; with_reducible refine HFM.out.mono ?_; rintro e w7 ⟨sg, D2, G2, m2, rfl, hr7, hc7, hs7, hd7, hro7⟩; have HZ7 := Lib.hid (spz_new hr7 hs7 hd7 hro7); have HC7 := Lib.hid hc7; clear hr7 hc7 hs7 hd7 hro7)
    have HB7 : Hid (Below U.heap.size U w7 ∧ (∀ j ∈ G2, U.heap.size ≤ j)) := Lib.hid (by
      have h5 := HB5.out
      have h6 := h5.trans (HB6.out.mono h5.size)
      have hF : ∀ j ∈ D1, U.heap.size ≤ j := fun j hj => Nat.le_trans h5.size (HF1.out j hj)
      exact ⟨HC7.out.below h6 h6.size hF, fun j hj => HC7.out.high h6.size hF j (List.mem_append.2 (.inr hj))⟩)
    have HON := Lib.hid (open_none HZ7.out rfl)
    clear HND HFM HC7 HB6 HF1 HD1 HB5
    go_upto_region 17 with (go_at_call 29; with_reducible refine HON.out.mono ?_; rintro e w8 ⟨rfl, hb8⟩; have HB8 := Lib.hid hb8; clear hb8)
    have HFA := Lib.hid (format_any (HZ7.out.below HB8.out) (fun l => rfl))
    go_upto_region 18 with (go_at_call 30; with_reducible refine HFA.out.mono ?_; rintro e w9 ⟨g, mb, s9, rfl, h9, -, -, -, hc9⟩; have H9 := Lib.hid h9.sp; have HC9 := Lib.hid hc9; clear h9 hc9)
    have HB9 : Hid (Below U.heap.size U w9) := Lib.hid (by
      have h7 := HB7.out.1
      have h8 := h7.trans (HB8.out.mono h7.size)
      exact HC9.out.below h8 h8.size HB7.out.2)
    have HFF := Lib.hid (format_full H9.out (cnt_pos rfl))
    clear HON HFA HZ7 HB8 HC9
    go_upto_region 19 with (go_at_call 30; with_reducible refine HFF.out.mono ?_; rintro e w10 ⟨rfl, hb10⟩; have HB10 := Lib.hid (HB9.out.trans (hb10.mono HB9.out.size)); have H10 := Lib.hid (H9.out.below hb10); clear hb10)
    have HRD := Lib.hid (read_z H10.out 0 (by omega) (by omega))
    rw [if_pos head0_th, show (Xv.new.put 0 head0).now (0 : Int).toNat = head0 from rfl] at HRD
    clear HFF H9 HB9
    obtain ⟨T0, hT0⟩ : ∃ T0, strB head0 = T0 := ⟨_, rfl⟩
    have hsz : T0.size = 512 := by rw [← hT0, strB_size, head0_ok.1]
    rw [hT0] at HRD
    have HT0 := Lib.hid hT0
    clear hT0
    go_upto_region 22 with (go_at_call 35; with_reducible refine HRD.out.mono ?_; rintro e w11 ⟨rfl, hb11⟩; have HB11 := Lib.hid (HB10.out.trans (hb11.mono HB10.out.size)); have H11 := Lib.hid (H10.out.below hb11); clear hb11)
    clear HRD H10 HB10
    by_cases c1 : at_ < 0
    · have d1 : decide (at_ < 0) = true := decide_eq_true c1
      go_wp2_with (go_at_call 14; with_reducible refine (HLV.out _).mono ?_; rintro e w12 ⟨rfl, hb12⟩; have HE := Lib.hid (HFIN.out _ (HB11.out.trans (hb12.mono HB11.out.size))); clear hb12)
      refine ⟨by simp, .inl ⟨_, _, rfl, run_takeDeferred HE.out.1, ?_⟩⟩
      refine ⟨.bool true, ?_, rfl, HE.out.2⟩
      simp [results, Tryz.f7, go_sem]
    by_cases c2 : 512 ≤ at_
    · have d1 : decide (at_ < 0) = false := decide_eq_false c1
      have d2 : decide (512 ≤ at_) = true := decide_eq_true c2
      go_wp2_with (go_at_call 14; with_reducible refine (HLV.out _).mono ?_; rintro e w12 ⟨rfl, hb12⟩; have HE := Lib.hid (HFIN.out _ (HB11.out.trans (hb12.mono HB11.out.size))); clear hb12)
      refine ⟨by simp, .inl ⟨_, _, rfl, run_takeDeferred HE.out.1, ?_⟩⟩
      refine ⟨.bool true, ?_, rfl, HE.out.2⟩
      simp [results, Tryz.f7, go_sem]
    have d1 : decide (at_ < 0) = false := decide_eq_false c1
    have d2 : decide (512 ≤ at_) = false := decide_eq_false c2
    by_cases c3 : by_ = 0
    · subst c3
      go_wp2_with (go_at_call 14; with_reducible refine (HLV.out _).mono ?_; rintro e w12 ⟨rfl, hb12⟩; have HE := Lib.hid (HFIN.out _ (HB11.out.trans (hb12.mono HB11.out.size))); clear hb12)
      refine ⟨by simp, .inl ⟨_, _, rfl, run_takeDeferred HE.out.1, ?_⟩⟩
      refine ⟨.bool true, ?_, rfl, HE.out.2⟩
      simp [results, Tryz.f7, go_sem]
    obtain ⟨A, rfl⟩ : ∃ A : Nat, at_ = (A : Int) := ⟨at_.toNat, by omega⟩
    have d3 : decide (((by_ : Nat) : Int) = 0) = false := decide_eq_false (by omega)
    have d4 : (((by_ : Nat) : Int) == 0) = false := by simpa using c3
    have d5 : decide (by_ = 0) = false := decide_eq_false c3
    have d6 : (by_ == 0) = false := by simpa using c3
    have hA : A < 512 := by omega
    have hAI : (A : Int) < 512 := by omega
    obtain ⟨cap, w12, cs, fr, hcv, hb12, hx12, hfr, hcs, hcap, hcap2⟩ := conv_own w11 head0 head0_ok.2 (by rw [head0_ok.1]; omega)
    rw [head0_ok.1] at hcv hfr hcs hcap
    rw [HT0.out] at hcv
    have hc0 : w12.cell? ⟨w11.heap.size, A, none⟩ = some (.int .u8 ((head0.getD A 0 : Nat) : Int)) := by rw [cell_of_row _ _ A _ _ _ hx12]; exact hcs A hA
    have hz0 : w12.frozen? ⟨w11.heap.size, A, none⟩ = false := by
      unfold World.frozen?
      obtain ⟨lo, hi⟩ := fr
      simp only [hx12]
      have h2 : (512 : Nat) ≤ lo := hfr
      simp; omega
    have hv0 : head0.getD A 0 < 256 := getD_lt head0_ok.2 A
    have hxr := u8_xor_nat (head0.getD A 0) by_ hv0 hby
    have hx256 : head0.getD A 0 ^^^ by_ < 256 := Nat.xor_lt_two_pow (n := 8) hv0 hby
    have HXN : Hid (head0.getD A 0 ^^^ by_ ≠ head0.getD A 0) := Lib.hid (xor_ne c3)
    have HBS : Hid (Bys (w12.setCell ⟨w11.heap.size, A, none⟩ (.int .u8 ((head0.getD A 0 ^^^ by_ : Nat) : Int))) (some ⟨w11.heap.size, 0, none⟩) (head0.set A (head0.getD A 0 ^^^ by_)).length (head0.set A (head0.getD A 0 ^^^ by_))) := Lib.hid (bys_set hx12 (by rw [head0_ok.1]; exact hcs) head0_ok.2 hx256 (by rw [head0_ok.1]; exact hA))
    have HB13 : Hid (Below w11.heap.size w11 (w12.setCell ⟨w11.heap.size, A, none⟩ (.int .u8 ((head0.getD A 0 ^^^ by_ : Nat) : Int)))) := Lib.hid (hb12.setCell (Nat.le_refl _) _)
    clear hx12 hfr hcs hb12 c1 c2 c3 ha0 ha1
    generalize head0.getD A 0 ^^^ by_ = X at *
    generalize hX0 : head0.getD A 0 = X0 at *
    have HX0 := Lib.hid hX0
    clear hX0
    go_upto_region 26 with fail
    generalize w12.setCell ⟨w11.heap.size, A, none⟩ (.int .u8 ((X : Nat) : Int)) = w13 at *
    have hcv2 := HBS.out.conv cap
    rw [show (head0.set A X).length = 512 by rw [List.length_set, head0_ok.1]] at hcv2
    have H13 := Lib.hid (H11.out.below HB13.out)
    have hdig := HBS.out.dig
    have HW := Lib.hid (write_z H13.out 0 (by omega) (by omega) (head0.set A X) ⟨by rw [List.length_set, head0_ok.1], hdig⟩)
    rw [if_pos head0_th, if_pos head0_th, show (0 : Int).toNat = 0 from rfl] at HW
    have HXT := Lib.hid hdig
    clear hdig hcv hc0 hz0 hxr hv0
    generalize strB (head0.set A X) = T9 at *
    go_upto_region 27 with (go_at_call 36; with_reducible refine HW.out.mono ?_; rintro e w14 ⟨rfl, ⟨s14, h14⟩, hc14⟩; have H14 := Lib.hid h14; have HC14 := Lib.hid hc14; clear h14 hc14)
    have HB14 : Hid (Below U.heap.size U w14) := Lib.hid (by
      have h13 := HB11.out.trans (HB13.out.mono HB11.out.size)
      exact HC14.out.below h13 h13.size HB7.out.2)
    have HOH := Lib.hid (open_harm H14.out (A := A) (x := X) rfl hA (by rw [HX0.out]; exact HXN.out))
    clear HW hcv2 H13 HC14
    go_wp2_with (first
      | (go_at_call 29; with_reducible refine HOH.out.mono ?_; rintro e w15 ⟨rfl, hb15⟩; have HB15 := Lib.hid (HB14.out.trans (hb15.mono HB14.out.size)); clear hb15)
      | (go_at_call 14; with_reducible refine (HLV.out _).mono ?_; rintro e w16 ⟨rfl, hb16⟩; have HE := Lib.hid (HFIN.out _ (HB15.out.trans (hb16.mono HB15.out.size))); clear hb16))
    refine ⟨by simp, .inl ⟨_, _, rfl, run_takeDeferred HE.out.1, ?_⟩⟩
    refine ⟨.bool true, ?_, rfl, HE.out.2⟩
    simp [results, Tryz.f7, go_sem]
end Go.Proofs.YtmbecjlioogbhaaGreatDoor
end
section
/-! What the rows of all these laws share: steps that came in, and how a call that returns true meets its row. -/
set_option maxRecDepth 20000
set_option linter.unusedSimpArgs false
set_option linter.unusedVariables false
set_option linter.constructorNameAsVariable false
namespace Go.Proofs.YtmbecjlioogbhaaGreatDoor
open Go.ChangeShapes Go.WideShapes Go.ChangeAt Go.RowKit

/-- A step by value. -/
structure Opv where
  kind : Int
  i : Int
  long : Int
  fill : Nat
def Opv.val (o : Opv) : Value := .agg #[.int .i64 o.kind, .int .i64 o.i, .int .i64 o.long, .int .u8 (o.fill : Int)]
structure OpB (o : Opv) : Prop where
  b0 : -9223372036854775808 ≤ o.kind ∧ o.kind ≤ 9223372036854775807
  b1 : -9223372036854775808 ≤ o.i ∧ o.i ≤ 9223372036854775807
  b2 : -9223372036854775808 ≤ o.long ∧ o.long ≤ 9223372036854775807
  b3 : o.fill < 256
theorem own : ownKnob Tryz.prog.godebug = none := by kernel_rfl
theorem laidOut : laidOutB Tryz.prog = true := by kernel_rfl
theorem cells3 : Tryz.prog.cellsOf 3 = 1 := by kernel_rfl
section
variable {H : Type} {enc : TypeId × Value → H}

/-- A call that leaves all that was there as it was meets the row's post. -/
theorem law_post {P : Program} {f : Func} {s : ChangeSpec} {apart fresh handsOn : Bool} {W W' : World} {args : Array Value} {v : Value} {ds gs : List (DataW H)} {before pa pv : List MemPlace}
    (hW : DataW.Whole enc P f.params.toList s.vars apart W args.toList ds gs before)
    (hres : ∀ (b : Nat) (sp : Nat → Bool) (hd : Bool), DataW.TrodAll enc P W' b sp hd f.resultTypes.toList (v.resultList f.resultTypes.size) (s.fn H (ds ++ gs)).results [])
    (hargs : DataW.TrodAll enc P W' 0 (fun b => decide (b < W.heap.size)) true f.params.toList args.toList (s.fn H (ds ++ gs)).args pa)
    (hvars : DataW.TrodVars enc P W' (fun b => decide (b < W.heap.size)) s.vars (s.fn H (ds ++ gs)).vars pv)
    (hps : before = pa ++ pv) (hb : Below W.heap.size W W') : s.post enc P f apart fresh handsOn false W args v W' :=
  ⟨ds, gs, before, [], pa, pv, hW, hres _ _ _, hargs, hvars, World.keptBut_mono (fun p hp => ⟨hp, .inr (List.mem_append.1 (hps ▸ hp))⟩) (hb.frame (· ∈ before)), fun h => by cases h⟩

end

theorem i64_of {n : Int} (h : (Lit.int .i64 n).wf = true) : -9223372036854775808 ≤ n ∧ n ≤ 9223372036854775807 := by
  simp only [Lit.wf, Bool.and_eq_true, decide_eq_true_eq] at h
  exact h
theorem u8_of {n : Int} (h : (Lit.int .u8 n).wf = true) : 0 ≤ n ∧ n < 256 := by
  simp only [Lit.wf, Bool.and_eq_true, decide_eq_true_eq] at h
  have h1 := h.1
  have h2 := h.2
  simp [IntKind.max, IntKind.min, IntKind.bits, IntKind.signed] at h1 h2
  omega
theorem cells55 : Tryz.prog.cellsOf 55 = 4 := by kernel_rfl
theorem cells5 : Tryz.prog.cellsOf 5 = 1 := by kernel_rfl
section
variable {H : Type} {enc : TypeId × Value → H}
/-- The cells of a step. -/
theorem op_cells {W : World} {n' : Nat} {ys : List (DataW H × List MemPlace)} {k0 k1 k2 k3 : Value} (hyl : ys.length = 4)
    (hg : ∀ (i : Nat) (f : Field), #[({ name := "Kind", type := 3, offset := 0, embedded := false, tag := "", pkgPath := "", byteOffset := 0 } : Field), { name := "N", type := 3, offset := 1, embedded := false, tag := "", pkgPath := "", byteOffset := 8 }, { name := "Long", type := 3, offset := 2, embedded := false, tag := "", pkgPath := "", byteOffset := 16 }, { name := "Fill", type := 5, offset := 3, embedded := false, tag := "", pkgPath := "", byteOffset := 24 }][i]? = some f →
      DataW.trod enc Tryz.prog W 0 (fun _ => true) true n' f.type (([k0, k1, k2, k3].drop f.offset).take (Tryz.prog.cellsOf f.type)) = ys[i]?) :
    ∃ o : Opv, k0 = .int .i64 o.kind ∧ k1 = .int .i64 o.i ∧ k2 = .int .i64 o.long ∧ k3 = .int .u8 (o.fill : Int) ∧ OpB o := by
  match ys, hyl with
  | [y0, y1, y2, y3], _ =>
    have g0 : DataW.trod enc Tryz.prog W 0 (fun _ => true) true n' 3 [k0] = some y0 := by
      have h := hg 0 ⟨"Kind", 3, 0, false, "", "", 0⟩ rfl
      dsimp only at h
      rw [cells3] at h
      exact h
    have g1 : DataW.trod enc Tryz.prog W 0 (fun _ => true) true n' 3 [k1] = some y1 := by
      have h := hg 1 ⟨"N", 3, 1, false, "", "", 8⟩ rfl
      dsimp only at h
      rw [cells3] at h
      exact h
    have g2 : DataW.trod enc Tryz.prog W 0 (fun _ => true) true n' 3 [k2] = some y2 := by
      have h := hg 2 ⟨"Long", 3, 2, false, "", "", 16⟩ rfl
      dsimp only at h
      rw [cells3] at h
      exact h
    have g3 : DataW.trod enc Tryz.prog W 0 (fun _ => true) true n' 5 [k3] = some y3 := by
      have h := hg 3 ⟨"Fill", 5, 3, false, "", "", 24⟩ rfl
      dsimp only at h
      rw [cells5] at h
      exact h
    obtain ⟨z0, e0, _, w0⟩ := DataW.trod_int Tryz.underlying3 g0
    obtain ⟨z1, e1, _, w1⟩ := DataW.trod_int Tryz.underlying3 g1
    obtain ⟨z2, e2, _, w2⟩ := DataW.trod_int Tryz.underlying3 g2
    obtain ⟨z3, e3, _, w3⟩ := DataW.trod_int Tryz.underlying5 g3
    have e0' : k0 = .int .i64 z0 := by simpa using e0
    have e1' : k1 = .int .i64 z1 := by simpa using e1
    have e2' : k2 = .int .i64 z2 := by simpa using e2
    have e3' : k3 = .int .u8 z3 := by simpa using e3
    have r3 := u8_of w3
    exact ⟨⟨z0, z1, z2, z3.toNat⟩, e0', e1', e2', by rw [e3']; congr 1; show z3 = ((z3.toNat : Nat) : Int); omega, ⟨i64_of w0, i64_of w1, i64_of w2, by show z3.toNat < 256; omega⟩⟩

/-- A step by value. -/
theorem open_op {W : World} {base : Nat} {v : Value} {d : DataW H} {p : List MemPlace} (hval : Value.okWide Tryz.prog W .any base 55 v) (h : DataW.Trod enc Tryz.prog W 0 (fun _ => true) true 55 v d p) :
    ∃ b : Opv, v = b.val ∧ OpB b := by
  obtain ⟨cs, rfl, hsz⟩ := okWide_struct Tryz.underlying55 hval
  obtain ⟨l⟩ := cs
  match l, hsz.trans cells55 with
  | [k0, k1, k2, k3], _ =>
    obtain ⟨fuel, hf⟩ := h
    obtain ⟨ys, n', _, _, _, hyl, hg⟩ := DataW.trod_struct Tryz.underlying55 hf
    obtain ⟨o, rfl, rfl, rfl, rfl, hB⟩ := op_cells (W := W) (n' := n') (ys := ys) hyl (by exact hg)
    exact ⟨o, rfl, hB⟩

instance : Inhabited Opv := ⟨⟨0, 0, 0, 0⟩⟩
end
end Go.Proofs.YtmbecjlioogbhaaGreatDoor
end
section
/-! StoreNils: its walk, over a step by value. -/
namespace Go.Proofs.YtmbecjlioogbhaaGreatDoor
open Go.RowKit
theorem nils_walk (o : Opv) (at_ : Int) (y : Nat) (w : World) (ho : OpB o) (ha0 : -9223372036854775808 ≤ at_) (ha1 : at_ ≤ 9223372036854775807) (hy : y < 256) :
    Calls Tryz.prog 7 #[o.val, .int .i64 at_, .int .u8 (y : Int)] w fun e w' => e = .returned (.bool true) ∧ Below w.heap.size w w' :=
  nils_any o.kind o.i o.long o.fill ho.b3 at_ ha0 ha1 y hy w
end Go.Proofs.YtmbecjlioogbhaaGreatDoor
end
