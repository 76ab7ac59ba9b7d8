/- What the document makes of a write, and of a barrier. -/
import Derived.Test.YtdldjpgbifcljaaRPut
import Derived.StillTailTactics
namespace Go.Proofs.Ytdldjpgbifcljaa
open Go.RowKit

theorem Ref.put {w : World} {x : Value} {m : Dsk} (h : Ref w x m) (i : Int) (s : List Nat) (hs : ∀ d ∈ s, d < 256) (hd : m.done ≤ 4611686018427387904) (hl : m.row.length ≤ 1099511627776) :
    Calls Try.prog 29 #[x, .int .i64 i, .string (strB s)] w fun e w' => (∃ y, e = .returned (.tuple #[y, .int .i64 (putE m i s)]) ∧ Ref w' y (putM m i s)) ∧ Below w.heap.size w w' := by
  obtain ⟨vL, vR, rfl, h⟩ := h
  have hok := h.ok.put i s hs
  have hsame : ∀ {e : Ending} {w' : World} {E : Int}, putM m i s = m → putE m i s = E → (e = .returned (.tuple #[refV vL vR m, .int .i64 E]) ∧ Below w.heap.size w w') → (∃ y, e = .returned (.tuple #[y, .int .i64 (putE m i s)]) ∧ Ref w' y (putM m i s)) ∧ Below w.heap.size w w' := fun hm hE ⟨he, hb⟩ => by
    rw [hm, hE]; exact ⟨⟨_, he, _, _, rfl, h.below hb⟩, hb⟩
  by_cases hdn : m.down = true
  · unfold refV
    obtain ⟨⟨q1, c1, rfl⟩, q2, c2, rfl⟩ := h.forms
    rw [hdn]
    refine (rput_down q1 q2 _ c1 _ c2 m.fuse (m.done : Int) i _ w).mono ?_
    rintro e w' ⟨rfl, hb⟩
    exact hsame (by unfold putM; rw [if_pos hdn]) (by unfold putE; rw [if_pos hdn]) ⟨by unfold refV; rw [hdn], hb⟩
  · have hf : m.down = false := by simpa using hdn
    by_cases hh : m.has i = false
    · have hi : i < 0 ∨ (m.out.length : Int) ≤ i := by
        unfold Dsk.has at hh
        simp only [Bool.and_eq_false_iff, decide_eq_false_iff_not] at hh
        omega
      unfold refV
      obtain ⟨⟨q1, c1, rfl⟩, q2, c2, rfl⟩ := h.forms
      rw [hf]
      refine (rput_far q1 q2 _ c1 _ c2 m.fuse (m.done : Int) i _ w hi).mono ?_
      rintro e w' ⟨rfl, hb⟩
      exact hsame (by unfold putM; rw [if_neg hdn, if_pos hh]) (by unfold putE; rw [if_neg hdn, if_pos hh]) ⟨by unfold refV; rw [hf], hb⟩
    · have ht : m.has i = true := by simpa using hh
      unfold Dsk.has at ht
      simp only [Bool.and_eq_true, decide_eq_true_eq] at ht
      obtain ⟨k, rfl⟩ := Int.eq_ofNat_of_zero_le ht.1
      by_cases hsl : s.length = 128
      · have hsl2 : ¬ s.length ≠ 128 := by simp [hsl]
        by_cases hz : m.fuse = 0
        · unfold refV
          obtain ⟨⟨q1, c1, rfl⟩, q2, c2, rfl⟩ := h.forms
          rw [hf, hz]
          refine (rput_burnt q1 q2 _ c1 _ c2 (m.done : Int) k _ w ht.1 ht.2 ((strB_size s).trans hsl)).mono ?_
          rintro e w' ⟨rfl, hb⟩
          rw [show putM m k s = burnt m by unfold putM; rw [if_neg hdn, if_neg hh, if_neg hsl2, if_pos hz], show putE m k s = 9 by unfold putE; rw [if_neg hdn, if_neg hh, if_neg hsl2, if_pos hz]]
          have h2 := h.below hb
          exact ⟨⟨_, rfl, _, _, by unfold refV burnt; rw [hz], h2.l, h2.r, h.ok.burnt⟩, hb⟩
        · have hM : putM m k s = { burns m with row := m.row ++ [(k, s)] } := by unfold putM; rw [if_neg hdn, if_neg hh, if_neg hsl2, if_neg hz]; rfl
          rw [show putE m k s = 0 by unfold putE; rw [if_neg hdn, if_neg hh, if_neg hsl2, if_neg hz]]
          rw [hM] at hok ⊢
          unfold refV
          rw [hf]
          refine (rput_ok h k s (by omega) hsl hz hd hl).mono ?_
          rintro e w' ⟨⟨vN, rfl, hN⟩, hb⟩
          have h2 := h.below hb
          refine ⟨⟨_, rfl, _, _, by unfold refV burns; rw [hf], h2.l, ?_, hok⟩, hb⟩
          show World.ownsRow _ 0 73 2 _ (m.row ++ [(k, s)]).length _
          rw [List.length_append]
          exact hN
      · unfold refV
        obtain ⟨⟨q1, c1, rfl⟩, q2, c2, rfl⟩ := h.forms
        rw [hf]
        refine (rput_short q1 q2 _ c1 _ c2 m.fuse (m.done : Int) k _ w ht.1 ht.2 (by rw [strB_size]; exact hsl)).mono ?_
        rintro e w' ⟨rfl, hb⟩
        exact hsame (by unfold putM; rw [if_neg hdn, if_neg hh, if_pos hsl]) (by unfold putE; rw [if_neg hdn, if_neg hh, if_pos hsl]) ⟨by unfold refV; rw [hf], hb⟩

set_option maxHeartbeats 400000 in
theorem rbar_down (q1 q2 : Option Addr) (n1 c1 n2 c2 : Nat) (fu dn : Int) (w : World) :
    Calls Try.prog 30 #[.agg #[.slice q1 n1 c1, .slice q2 n2 c2, .int .i64 fu, .bool true, .int .i64 dn]] w fun e w' => e = .returned (.tuple #[.agg #[.slice q1 n1 c1, .slice q2 n2 c2, .int .i64 fu, .bool true, .int .i64 dn], .int .i64 9]) ∧ Below w.heap.size w w' := by
  go_enter Try.func30, Try.ntmps30
  go_wp2_with fail
  exact bodyPost_ret (v := .tuple #[.agg #[.slice q1 n1 c1, .slice q2 n2 c2, .int .i64 fu, .bool true, .int .i64 dn], .int .i64 9]) (by simp [results, Try.results30, go_sem]) rfl ⟨rfl, below2 _ _ _⟩
set_option maxHeartbeats 800000 in
theorem rbar_burnt (q1 q2 : Option Addr) (n1 c1 n2 c2 : Nat) (dn : Int) (w : World) :
    Calls Try.prog 30 #[.agg #[.slice q1 n1 c1, .slice q2 n2 c2, .int .i64 0, .bool false, .int .i64 dn]] w fun e w' => e = .returned (.tuple #[.agg #[.slice q1 n1 c1, .slice q2 n2 c2, .int .i64 0, .bool true, .int .i64 dn], .int .i64 9]) ∧ Below w.heap.size w w' := by
  have HX := fun b0 b1 b2 b3 b4 => Lib.hid (boxes w (.slice q1 n1 c1) (.slice q2 n2 c2) (.int .i64 0) (.bool false) (.int .i64 dn) b0 b1 b2 b3 b4)
  have HBB := fun a b => Lib.hid (below2 w a b)
  go_enter Try.func30, Try.ntmps30
  go_wp2_with fail
  refine (rburn_no q1 q2 n1 c1 n2 c2 dn false _).mono ?_
  rintro e w2 ⟨rfl, hb⟩
  have hA := (HX _ _ _ _ _).out.1.below hb
  have hR := (HX _ _ _ _ _).out.2.below hb
  have HB := Lib.hid ((HBB _ _).out.trans (hb.mono (HBB _ _).out.size))
  have a0 := hA.c0
  have a1 := hA.c1
  have a2 := hA.c2
  have a3 := hA.c3
  have a4 := hA.c4
  have af := hA.fz
  have r0 := hR.c0
  have r1 := hR.c1
  have r2 := hR.c2
  have r3 := hR.c3
  have r4 := hR.c4
  have rf := hR.fz
  clear hA hR hb HX HBB
  go_wp2_with fail
  exact bodyPost_ret (v := .tuple #[.agg #[.slice q1 n1 c1, .slice q2 n2 c2, .int .i64 0, .bool true, .int .i64 dn], .int .i64 9]) (by simp [results, Try.results30, go_sem, r0, r1, r2, r3, r4]) rfl ⟨rfl, by
    repeat' refine Below.setCell ?_ (by first | exact Nat.le_refl _ | exact Nat.le_succ _) _
    exact HB.out⟩
/-- The document's disk amid a barrier. -/
structure BarR (w wr : World) (b : Nat) (vL vR : Value) (fu dn : Int) (no n : Nat) (L : List (List Nat)) (rw_ : List Wr) : Prop where
  a : Box5 wr b vL vR (.int .i64 fu) (.bool false) (.int .i64 dn)
  r : ∃ z0 z1 z2 z3 z4, Box5 wr (b + 1) z0 z1 z2 z3 z4
  below : Below w.heap.size w wr
  l : wr.ownsRow 0 9 1 vL no (strs L)
  row : wr.ownsRow 0 73 2 vR n (wrs rw_)
theorem BarR.drew {w wr : World} {b : Nat} {vL vR : Value} {fu dn : Int} {no n : Nat} {L : List (List Nat)} {l : List Wr} (h : BarR w wr b vL vR fu dn no n L l) : BarR w wr.drew b vL vR fu dn no n L l := by
  obtain ⟨z0, z1, z2, z3, z4, hr⟩ := h.r
  exact ⟨⟨h.a.hd⟩, ⟨z0, z1, z2, z3, z4, ⟨hr.hd⟩⟩, h.below.drew, h.l.drew, h.row.drew⟩
/-- Behind 'with', and the store of what it returned. -/
theorem BarR.step {w wd w4 : World} {b : Nat} {vL vR : Value} {fu dn : Int} {no n : Nat} {L L2 : List (List Nat)} {l : List Wr} (h : BarR w wd b vL vR fu dn no n L l) (hb : Below wd.heap.size wd w4) (hw : w.heap.size ≤ b) {bN cN : Nat}
    (hown : w4.ownsRow 0 9 1 (.slice (some ⟨bN, 0, none⟩) no cN) no (strs L2)) : BarR w (w4.setCell ⟨b, 0, none⟩ (.slice (some ⟨bN, 0, none⟩) no cN)) b (.slice (some ⟨bN, 0, none⟩) no cN) vR fu dn no n L2 l := by
  obtain ⟨z0, z1, z2, z3, z4, hr⟩ := h.r
  have ha := h.a.below hb
  have hrow : w4.ownsRow 0 73 2 vR n (wrs l) := own_chg h.row (Chg.of_below (F := []) hb) (fun k hk => by cases hk) (by decide)
  have hN : bN ≠ b := by obtain ⟨cur, hc⟩ := own_head hown rfl; exact ne_of_ty hc ha.hd (by decide)
  have hR : ∀ j, vR.ownBlock = some j → j ≠ b := fun j e => by obtain ⟨cur, hc⟩ := own_head hrow e; exact ne_of_ty hc ha.hd (by decide)
  exact ⟨ha.set0 _, ⟨z0, z1, z2, z3, z4, (hr.below hb).other (Nat.succ_ne_self _) _⟩, (h.below.trans (hb.mono h.below.size)).setCell hw _,
    own_other hown (fun j e => by cases e; exact heap_setCell_other _ _ _ _ hN), own_other hrow (fun j e => heap_setCell_other _ _ _ _ (hR j e))⟩
set_option maxHeartbeats 1600000 in
theorem rbar_ok {w : World} {m : Dsk} {vL vR : Value} (h : RefV w vL vR m) (hz : m.fuse ≠ 0) (hd : m.done ≤ 4611686018427387904) (hl : m.row.length ≤ 1099511627776) (ho : m.out.length ≤ 1099511627776) :
    Calls Try.prog 30 #[.agg #[vL, vR, .int .i64 m.fuse, .bool false, .int .i64 (m.done : Int)]] w fun e w' =>
      (∃ vN, e = .returned (.tuple #[.agg #[vN, .slice none 0 0, .int .i64 (if m.fuse = -1 then -1 else m.fuse - 1), .bool false, .int .i64 ((m.done + 1 : Nat) : Int)], .int .i64 0]) ∧ w'.ownsRow 0 9 1 vN m.out.length (strs m.last)) ∧ Below w.heap.size w w' := by
  obtain ⟨⟨q1, c1, rfl⟩, q2, c2, rfl⟩ := h.forms
  have HBu := fun w2 => Lib.hid (rburn_yes q1 q2 m.out.length c1 m.row.length c2 m.fuse m.done false w2 h.ok.fuse0 h.ok.fuse1 hz hd)
  have HH := Lib.hid h
  have HLast : Hid (m.last = appN m.row m.out m.row.length) := Lib.hid rfl
  rw [HLast.out]
  have hf0 := h.ok.fuse0
  have hf1 := h.ok.fuse1
  clear h hz
  obtain ⟨n, hnn⟩ : ∃ n, Hid (m.row.length = n) := ⟨_, Lib.hid rfl⟩
  obtain ⟨no, hno⟩ : ∃ no, Hid (m.out.length = no) := ⟨_, Lib.hid rfl⟩
  rw [hnn.out] at HBu hl ⊢
  rw [hno.out] at HBu ho ⊢
  generalize hfe : (if m.fuse = -1 then (-1 : Int) else m.fuse - 1) = fe at *
  clear hfe
  generalize hfu : m.fuse = fu at *
  generalize hdn : m.done = dn at *
  have HX := fun b0 b1 b2 b3 b4 => Lib.hid (boxes w (.slice q1 no c1) (.slice q2 n c2) (.int .i64 fu) (.bool false) (.int .i64 (dn : Int)) b0 b1 b2 b3 b4)
  have HBB := fun a b => Lib.hid (below2 w a b)
  have HFU := Lib.hid hfu
  have HDN := Lib.hid hdn
  clear hfu hdn
  go_enter Try.func30, Try.ntmps30
  go_wp2_with fail
  refine (HBu _).out.mono ?_
  rintro e w2 ⟨rfl, hb⟩
  have HA := Lib.hid ((HX _ _ _ _ _).out.1.below hb)
  have HRR := Lib.hid ((HX _ _ _ _ _).out.2.below hb)
  have HB := Lib.hid ((HBB _ _).out.trans (hb.mono (HBB _ _).out.size))
  have a0 := HA.out.c0
  have a1 := HA.out.c1
  have a2 := HA.out.c2
  have a3 := HA.out.c3
  have a4 := HA.out.c4
  have af := HA.out.fz
  clear hb HX HBB HBu
  go_upto_region 6 with fail
  have H0 : Hid (BarR w (((((w2.setCell ⟨w.heap.size, 0, none⟩ (.slice q1 no c1)).setCell ⟨w.heap.size, 1, none⟩ (.slice q2 n c2)).setCell ⟨w.heap.size, 2, none⟩ (.int .i64 fe)).setCell ⟨w.heap.size, 3, none⟩ (.bool false)).setCell ⟨w.heap.size, 4, none⟩ (.int .i64 ((dn : Int) + 1))) w.heap.size (.slice q1 no c1) (.slice q2 n c2) fe ((dn : Int) + 1) no n (appN m.row m.out 0) m.row) := Lib.hid (by
    have hb : Below w.heap.size w (((((w2.setCell ⟨w.heap.size, 0, none⟩ (.slice q1 no c1)).setCell ⟨w.heap.size, 1, none⟩ (.slice q2 n c2)).setCell ⟨w.heap.size, 2, none⟩ (.int .i64 fe)).setCell ⟨w.heap.size, 3, none⟩ (.bool false)).setCell ⟨w.heap.size, 4, none⟩ (.int .i64 ((dn : Int) + 1))) := by
      repeat' refine Below.setCell ?_ (by first | exact Nat.le_refl _ | exact Nat.le_succ _) _
      exact HB.out
    have hl := HH.out.l
    have hr := HH.out.r
    rw [hno.out] at hl
    rw [hnn.out] at hr
    exact ⟨((((HA.out.set0 _).set1 _).set2 _).set3 _).set4 _, ⟨_, _, _, _, _, ((((HRR.out.other (Nat.succ_ne_self _) _).other (Nat.succ_ne_self _) _).other (Nat.succ_ne_self _) _).other (Nat.succ_ne_self _) _).other (Nat.succ_ne_self _) _⟩, hb,
      own_chg hl (Chg.of_below (F := []) hb) (fun k hk => by cases hk) (by decide), own_chg hr (Chg.of_below (F := []) hb) (fun k hk => by cases hk) (by decide)⟩)
  clear a0 a1 a2 a3 a4 af HA HRR HB
  generalize (((((w2.setCell ⟨w.heap.size, 0, none⟩ (.slice q1 no c1)).setCell ⟨w.heap.size, 1, none⟩ (.slice q2 n c2)).setCell ⟨w.heap.size, 2, none⟩ (.int .i64 fe)).setCell ⟨w.heap.size, 3, none⟩ (.bool false)).setCell ⟨w.heap.size, 4, none⟩ (.int .i64 ((dn : Int) + 1))) = w3 at *
  have HROW : Hid (∀ x ∈ m.row, x.1 < no) := Lib.hid (fun x hx => by rw [← hno.out]; exact (HH.out.ok.row x hx).1)
  go_wp2_with fail
  go_loopw [5] (fun iv wq => ∃ k : Nat, k ≤ n ∧ iv = .int .i64 (k : Int) ∧ Hid (∃ vL, BarR w wq w.heap.size vL (.slice q2 n c2) fe ((dn : Int) + 1) no n (appN m.row m.out k) m.row)) (fun iv _ => n - (intOf iv).toNat)
  case atStart => exact ⟨0, by omega, by go_num, Lib.hid ⟨_, H0.out⟩⟩
  case round =>
    obtain ⟨k, hk, rfl, hr⟩ := hrel
    clear H0
    obtain ⟨vL, hB⟩ := hr.out
    have HB := Lib.hid hB
    clear hr hB
    have a1 := HB.out.a.c1
    have a0 := HB.out.a.c0
    have af := HB.out.a.fz
    by_cases hlt : k < n
    · have hwm := wr_mem (show k < m.row.length by rw [hnn.out]; exact hlt)
      have hi := HROW.out _ hwm
      obtain ⟨gL, cL, rfl, _, _⟩ := HB.out.l.form (by omega)
      obtain ⟨gR, cR, hvR, _, hgR⟩ := HB.out.row.form (by omega)
      simp only [Value.slice.injEq] at hvR
      obtain ⟨rfl, _, rfl⟩ := hvR
      have h1 := HB.out.row.cellAt (k * 2) (by omega)
      have h2 := HB.out.row.cellAt (k * 2 + 1) (by omega)
      rw [(wrs_get _ k (by rw [hnn.out]; exact hlt)).1] at h1
      rw [(wrs_get _ k (by rw [hnn.out]; exact hlt)).2] at h2
      have b1 : (0 : Int) ≤ (k : Int) := by omega
      have b2 : (k : Int) < (n : Int) := by omega
      have HE : Hid (appN m.row m.out (k + 1) = (appN m.row m.out k).set (Go.Proofs.Ytdldjpgbifcljaa.wr m.row k).1 (Go.Proofs.Ytdldjpgbifcljaa.wr m.row k).2) := Lib.hid rfl
      have HL : Hid ((appN m.row m.out k).length = no) := Lib.hid ((appN_len _ _ _).trans hno.out)
      have HOL := Lib.hid HB.out.l
      clear hwm
      generalize (Go.Proofs.Ytdldjpgbifcljaa.wr m.row k).1 = i at *
      obtain ⟨S, HS⟩ : ∃ S, Hid (strB (Go.Proofs.Ytdldjpgbifcljaa.wr m.row k).2 = S) := ⟨_, Lib.hid rfl⟩
      rw [HS.out] at h2
      go_wp2_with fail
      go_still_tail 14, (by kernel_rfl)
      change wpList _ _ _ _ _ (World.drew _)
      have HBD := Lib.hid HB.out.drew
      have HOD := Lib.hid HOL.out.drew
      have d0 := HBD.out.a.c0
      have df := HBD.out.a.fz
      clear a0 a1 af h1 h2 HB HOL
      generalize World.drew _ = wd at *
      go_wp2_with fail
      rw [← HS.out]
      refine (with_any gL no cL _ i (Go.Proofs.Ytdldjpgbifcljaa.wr m.row k).2 _ HOD.out HL hi ho).mono ?_
      rintro e w4 ⟨⟨bN, cN, rfl, hown⟩, hb⟩
      rw [← HE.out] at hown
      have HNX := Lib.hid (HBD.out.step hb (Nat.le_refl _) hown)
      have c0 := (HBD.out.a.below hb).c0
      have cf := (HBD.out.a.below hb).fz
      clear hown hb d0 df HBD HOD
      go_wp2_with fail
      go_roundw
      case rel => exact ⟨k + 1, by omega, by go_num, Lib.hid ⟨_, HNX.out⟩⟩
      case measure => simp [intOf]; omega
    · obtain rfl : k = n := by omega
      obtain ⟨qL, cL, hvL⟩ := own_form HB.out.l
      rw [hvL] at HB
      clear a0
      have a0 := HB.out.a.c0
      have a2 := HB.out.a.c2
      have a3 := HB.out.a.c3
      have a4 := HB.out.a.c4
      obtain ⟨z0, z1, z2, z3, z4, hR⟩ := HB.out.r
      have r0 := hR.c0
      have r1 := hR.c1
      have r2 := hR.c2
      have r3 := hR.c3
      have r4 := hR.c4
      have rf := hR.fz
      have HN1 : Hid (∀ j, (Value.slice qL no cL).ownBlock = some j → j ≠ w.heap.size ∧ j ≠ w.heap.size + 1) := Lib.hid (fun j e => by
        obtain ⟨cur, hc⟩ := own_head HB.out.l e
        exact ⟨ne_of_ty hc HB.out.a.hd (by decide), ne_of_ty hc hR.hd (by decide)⟩)
      clear hR hvL
      go_wp2_with fail
      refine bodyPost_ret (v := .tuple #[.agg #[.slice qL no cL, .slice none 0 0, .int .i64 fe, .bool false, .int .i64 ((dn + 1 : Nat) : Int)], .int .i64 0]) (by simp [results, Try.results30, go_sem, r0, r1, r2, r3, r4]) rfl ⟨⟨_, rfl, ?_⟩, ?_⟩
      · refine own_other HB.out.l (fun j hj => ?_)
        iterate 5 refine (heap_setCell_other _ _ _ _ (HN1.out j hj).2).trans ?_
        exact heap_setCell_other _ _ _ _ (HN1.out j hj).1
      · repeat' refine Below.setCell ?_ (by first | exact Nat.le_refl _ | exact Nat.le_succ _) _
        exact HB.out.below
end Go.Proofs.Ytdldjpgbifcljaa
