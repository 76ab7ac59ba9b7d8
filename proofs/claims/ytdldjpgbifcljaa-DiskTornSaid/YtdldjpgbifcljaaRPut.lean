/- What the document makes of a write. -/
import Derived.Test.YtdldjpgbifcljaaRRead
import Derived.Deep.CutBlock
import Derived.Deep.DeepCutAuto
import Derived.Laws.AppendOwnNone
namespace Go.Proofs.Ytdldjpgbifcljaa
open Go.RowKit

/-- A box of five cells. -/
structure Box5 (w : World) (b : Nat) (v0 v1 v2 v3 v4 : Value) : Prop where
  hd : w.heap[b]? = some (.cells #[v0, v1, v2, v3, v4] 33 (0, 0))
theorem Box5.c0 {w : World} {b : Nat} {v0 v1 v2 v3 v4 : Value} (h : Box5 w b v0 v1 v2 v3 v4) : w.cell? ⟨b, 0, none⟩ = some v0 := by rw [cell_of_row w b 0 _ _ _ h.hd]; rfl
theorem Box5.c1 {w : World} {b : Nat} {v0 v1 v2 v3 v4 : Value} (h : Box5 w b v0 v1 v2 v3 v4) : w.cell? ⟨b, 1, none⟩ = some v1 := by rw [cell_of_row w b 1 _ _ _ h.hd]; rfl
theorem Box5.c2 {w : World} {b : Nat} {v0 v1 v2 v3 v4 : Value} (h : Box5 w b v0 v1 v2 v3 v4) : w.cell? ⟨b, 2, none⟩ = some v2 := by rw [cell_of_row w b 2 _ _ _ h.hd]; rfl
theorem Box5.c3 {w : World} {b : Nat} {v0 v1 v2 v3 v4 : Value} (h : Box5 w b v0 v1 v2 v3 v4) : w.cell? ⟨b, 3, none⟩ = some v3 := by rw [cell_of_row w b 3 _ _ _ h.hd]; rfl
theorem Box5.c4 {w : World} {b : Nat} {v0 v1 v2 v3 v4 : Value} (h : Box5 w b v0 v1 v2 v3 v4) : w.cell? ⟨b, 4, none⟩ = some v4 := by rw [cell_of_row w b 4 _ _ _ h.hd]; rfl
theorem Box5.fz {w : World} {b : Nat} {v0 v1 v2 v3 v4 : Value} (h : Box5 w b v0 v1 v2 v3 v4) (i : Nat) : w.frozen? ⟨b, i, none⟩ = false := frozen_of_row w b i _ _ h.hd
theorem Box5.lt {w : World} {b : Nat} {v0 v1 v2 v3 v4 : Value} (h : Box5 w b v0 v1 v2 v3 v4) : b < w.heap.size := lt_of_block h.hd
theorem Box5.below {w w' : World} {b : Nat} {v0 v1 v2 v3 v4 : Value} (h : Box5 w b v0 v1 v2 v3 v4) (hb : Below w.heap.size w w') : Box5 w' b v0 v1 v2 v3 v4 := ⟨(hb.block b h.lt).trans h.hd⟩
theorem Box5.set0 {w : World} {b : Nat} {v0 v1 v2 v3 v4 : Value} (h : Box5 w b v0 v1 v2 v3 v4) (u : Value) : Box5 (w.setCell ⟨b, 0, none⟩ u) b u v1 v2 v3 v4 := ⟨heap_setCell_same w b 0 _ _ u h.hd⟩
theorem Box5.set1 {w : World} {b : Nat} {v0 v1 v2 v3 v4 : Value} (h : Box5 w b v0 v1 v2 v3 v4) (u : Value) : Box5 (w.setCell ⟨b, 1, none⟩ u) b v0 u v2 v3 v4 := ⟨heap_setCell_same w b 1 _ _ u h.hd⟩
theorem Box5.set2 {w : World} {b : Nat} {v0 v1 v2 v3 v4 : Value} (h : Box5 w b v0 v1 v2 v3 v4) (u : Value) : Box5 (w.setCell ⟨b, 2, none⟩ u) b v0 v1 u v3 v4 := ⟨heap_setCell_same w b 2 _ _ u h.hd⟩
theorem Box5.set3 {w : World} {b : Nat} {v0 v1 v2 v3 v4 : Value} (h : Box5 w b v0 v1 v2 v3 v4) (u : Value) : Box5 (w.setCell ⟨b, 3, none⟩ u) b v0 v1 v2 u v4 := ⟨heap_setCell_same w b 3 _ _ u h.hd⟩
theorem Box5.set4 {w : World} {b : Nat} {v0 v1 v2 v3 v4 : Value} (h : Box5 w b v0 v1 v2 v3 v4) (u : Value) : Box5 (w.setCell ⟨b, 4, none⟩ u) b v0 v1 v2 v3 u := ⟨heap_setCell_same w b 4 _ _ u h.hd⟩
theorem Box5.other {w : World} {b k i : Nat} {v0 v1 v2 v3 v4 : Value} (h : Box5 w b v0 v1 v2 v3 v4) (hk : b ≠ k) (u : Value) : Box5 (w.setCell ⟨k, i, none⟩ u) b v0 v1 v2 v3 v4 := ⟨(heap_setCell_other _ _ _ _ hk).trans h.hd⟩
/-- Two boxes, one behind the other. -/
theorem boxes (w : World) (a0 a1 a2 a3 a4 b0 b1 b2 b3 b4 : Value) : Box5 ((w.alloc (.cells #[a0, a1, a2, a3, a4] 33)).alloc (.cells #[b0, b1, b2, b3, b4] 33)) w.heap.size a0 a1 a2 a3 a4 ∧ Box5 ((w.alloc (.cells #[a0, a1, a2, a3, a4] 33)).alloc (.cells #[b0, b1, b2, b3, b4] 33)) (w.heap.size + 1) b0 b1 b2 b3 b4 :=
  ⟨⟨heap_alloc2_old w _ _⟩, ⟨heap_alloc2_new w _ _⟩⟩
set_option maxHeartbeats 400000 in
theorem rput_down (q1 q2 : Option Addr) (n1 c1 n2 c2 : Nat) (fu dn i : Int) (S : ByteArray) (w : World) :
    Calls Try.prog 29 #[.agg #[.slice q1 n1 c1, .slice q2 n2 c2, .int .i64 fu, .bool true, .int .i64 dn], .int .i64 i, .string S] w fun e w' => e = .returned (.tuple #[.agg #[.slice q1 n1 c1, .slice q2 n2 c2, .int .i64 fu, .bool true, .int .i64 dn], .int .i64 9]) ∧ Below w.heap.size w w' := by
  go_enter Try.func29, Try.ntmps29
  go_wp2_with fail
  exact bodyPost_ret (v := .tuple #[.agg #[.slice q1 n1 c1, .slice q2 n2 c2, .int .i64 fu, .bool true, .int .i64 dn], .int .i64 9]) (by simp [results, Try.results29, go_sem]) rfl ⟨rfl, below2 _ _ _⟩
set_option maxHeartbeats 400000 in
theorem rput_far (q1 q2 : Option Addr) (n1 c1 n2 c2 : Nat) (fu dn i : Int) (S : ByteArray) (w : World) (hi : i < 0 ∨ (n1 : Int) ≤ i) :
    Calls Try.prog 29 #[.agg #[.slice q1 n1 c1, .slice q2 n2 c2, .int .i64 fu, .bool false, .int .i64 dn], .int .i64 i, .string S] w fun e w' => e = .returned (.tuple #[.agg #[.slice q1 n1 c1, .slice q2 n2 c2, .int .i64 fu, .bool false, .int .i64 dn], .int .i64 7]) ∧ Below w.heap.size w w' := by
  rcases hi with hi | hi
  · go_enter Try.func29, Try.ntmps29
    go_wp2_with fail
    exact bodyPost_ret (v := .tuple #[.agg #[.slice q1 n1 c1, .slice q2 n2 c2, .int .i64 fu, .bool false, .int .i64 dn], .int .i64 7]) (by simp [results, Try.results29, go_sem]) rfl ⟨rfl, below2 _ _ _⟩
  · have h0 : ¬ i < 0 := by omega
    go_enter Try.func29, Try.ntmps29
    go_wp2_with fail
    exact bodyPost_ret (v := .tuple #[.agg #[.slice q1 n1 c1, .slice q2 n2 c2, .int .i64 fu, .bool false, .int .i64 dn], .int .i64 7]) (by simp [results, Try.results29, go_sem]) rfl ⟨rfl, below2 _ _ _⟩
set_option maxHeartbeats 400000 in
theorem rput_short (q1 q2 : Option Addr) (n1 c1 n2 c2 : Nat) (fu dn i : Int) (S : ByteArray) (w : World) (h0 : 0 ≤ i) (h1 : i < (n1 : Int)) (hs : S.size ≠ 128) :
    Calls Try.prog 29 #[.agg #[.slice q1 n1 c1, .slice q2 n2 c2, .int .i64 fu, .bool false, .int .i64 dn], .int .i64 i, .string S] w fun e w' => e = .returned (.tuple #[.agg #[.slice q1 n1 c1, .slice q2 n2 c2, .int .i64 fu, .bool false, .int .i64 dn], .int .i64 1]) ∧ Below w.heap.size w w' := by
  have hd : ((S.size : Int) != 128) = true := by simp; omega
  go_enter Try.func29, Try.ntmps29
  go_wp2_with fail
  exact bodyPost_ret (v := .tuple #[.agg #[.slice q1 n1 c1, .slice q2 n2 c2, .int .i64 fu, .bool false, .int .i64 dn], .int .i64 1]) (by simp [results, Try.results29, go_sem]) rfl ⟨rfl, below2 _ _ _⟩
set_option maxHeartbeats 800000 in
theorem rput_burnt (q1 q2 : Option Addr) (n1 c1 n2 c2 : Nat) (dn i : Int) (S : ByteArray) (w : World) (h0 : 0 ≤ i) (h1 : i < (n1 : Int)) (hs : S.size = 128) :
    Calls Try.prog 29 #[.agg #[.slice q1 n1 c1, .slice q2 n2 c2, .int .i64 0, .bool false, .int .i64 dn], .int .i64 i, .string S] w fun e w' => e = .returned (.tuple #[.agg #[.slice q1 n1 c1, .slice q2 n2 c2, .int .i64 0, .bool true, .int .i64 dn], .int .i64 9]) ∧ Below w.heap.size w w' := by
  have hd : ((S.size : Int) != 128) = false := by simp; omega
  clear hs
  have HX := fun b0 b1 b2 b3 b4 => Lib.hid (boxes w (.slice q1 n1 c1) (.slice q2 n2 c2) (.int .i64 0) (.bool false) (.int .i64 dn) b0 b1 b2 b3 b4)
  have HBB := fun a b => Lib.hid (below2 w a b)
  go_enter Try.func29, Try.ntmps29
  go_wp2_with fail
  refine (rburn_no q1 q2 n1 c1 n2 c2 dn false _).mono ?_
  rintro e w2 ⟨rfl, hb⟩
  have hA := (HX _ _ _ _ _).out.1.below hb
  have hR := (HX _ _ _ _ _).out.2.below hb
  have HB := Lib.hid ((HBB _ _).out.trans (hb.mono (HBB _ _).out.size))
  have a0 := hA.c0
  have a1 := hA.c1
  have a2 := hA.c2
  have a3 := hA.c3
  have a4 := hA.c4
  have af := hA.fz
  have r0 := hR.c0
  have r1 := hR.c1
  have r2 := hR.c2
  have r3 := hR.c3
  have r4 := hR.c4
  have rf := hR.fz
  clear hA hR hb HX HBB
  go_wp2_with fail
  exact bodyPost_ret (v := .tuple #[.agg #[.slice q1 n1 c1, .slice q2 n2 c2, .int .i64 0, .bool true, .int .i64 dn], .int .i64 9]) (by simp [results, Try.results29, go_sem, r0, r1, r2, r3, r4]) rfl ⟨rfl, by
    repeat' refine Below.setCell ?_ (by first | exact Nat.le_refl _ | exact Nat.le_succ _) _
    exact HB.out⟩

/-- What a burnt fuse leaves of the document's disk. -/
structure Mid (w wx : World) (b : Nat) (vL vR : Value) (fu : Int) (dn : Nat) (z0 z1 z2 z3 z4 : Value) : Prop where
  a : Box5 wx b vL vR (.int .i64 fu) (.bool false) (.int .i64 ((dn + 1 : Nat) : Int))
  r : Box5 wx (b + 1) z0 z1 z2 z3 z4
  below : Below w.heap.size w wx
set_option maxHeartbeats 1600000 in
theorem rput_ok {w : World} {m : Dsk} {vL vR : Value} (h : RefV w vL vR m) (i : Nat) (s : List Nat) (hi : i < m.out.length) (hs : s.length = 128) (hz : m.fuse ≠ 0) (hd : m.done ≤ 4611686018427387904) (hl : m.row.length ≤ 1099511627776) :
    Calls Try.prog 29 #[.agg #[vL, vR, .int .i64 m.fuse, .bool false, .int .i64 (m.done : Int)], .int .i64 (i : Int), .string (strB s)] w fun e w' =>
      (∃ vN, e = .returned (.tuple #[.agg #[vL, vN, .int .i64 (if m.fuse = -1 then -1 else m.fuse - 1), .bool false, .int .i64 ((m.done + 1 : Nat) : Int)], .int .i64 0]) ∧ w'.ownsRow 0 73 2 vN (m.row.length + 1) (wrs (m.row ++ [(i, s)]))) ∧ Below w.heap.size w w' := by
  obtain ⟨q1, c1, rfl⟩ := own_form h.l
  have hv : ∃ q2 k2 c2, vR = .slice q2 k2 c2 ∧ Hid ((q2 = none ∧ k2 = 0 ∧ c2 = 0 ∧ m.row.length = 0) ∨ ∃ g, q2 = some ⟨g, 0, none⟩ ∧ k2 = m.row.length) := by
    rcases h.r.2 with ⟨e, e0⟩ | ⟨g, cap, cur, e, _⟩
    · exact ⟨none, 0, 0, e, .inl ⟨rfl, rfl, rfl, e0⟩⟩
    · exact ⟨_, _, _, e, .inr ⟨g, rfl, rfl⟩⟩
  obtain ⟨q2, k2, c2, rfl, HV⟩ := hv
  have hdd : (((strB s).size : Int) != 128) = false := by rw [strB_size, hs]; rfl
  have hil : (i : Int) < (m.out.length : Int) := by omega
  have HBu := fun w2 => Lib.hid (rburn_yes q1 q2 m.out.length c1 k2 c2 m.fuse m.done false w2 h.ok.fuse0 h.ok.fuse1 hz hd)
  have HSN := Lib.hid (wrs_snoc m.row (i, s))
  have HR := Lib.hid h.r
  have HWL := Lib.hid (wrs_len m.row)
  have HWO := Lib.hid (wrs_one m.row)
  have hf0 := h.ok.fuse0
  have hf1 := h.ok.fuse1
  clear h hs hi hz
  generalize strB s = S at *
  generalize hrow : wrs m.row = R at *
  generalize hN : wrs (m.row ++ [(i, s)]) = RN at *
  clear hrow hN
  generalize m.row.length = n at *
  generalize m.out.length = no at *
  generalize hfe : (if m.fuse = -1 then (-1 : Int) else m.fuse - 1) = fe at *
  clear hfe
  generalize m.fuse = fu at *
  generalize m.done = dn at *
  have HX := fun b0 b1 b2 b3 b4 => Lib.hid (boxes w (.slice q1 no c1) (.slice q2 k2 c2) (.int .i64 fu) (.bool false) (.int .i64 (dn : Int)) b0 b1 b2 b3 b4)
  have HBB := fun a b => Lib.hid (below2 w a b)
  go_enter Try.func29, Try.ntmps29
  go_wp2_with fail
  refine (HBu _).out.mono ?_
  rintro e w2 ⟨rfl, hb⟩
  have HA := Lib.hid ((HX _ _ _ _ _).out.1.below hb)
  have HRR := Lib.hid ((HX _ _ _ _ _).out.2.below hb)
  have HB := Lib.hid ((HBB _ _).out.trans (hb.mono (HBB _ _).out.size))
  have a0 := HA.out.c0
  have a1 := HA.out.c1
  have a2 := HA.out.c2
  have a3 := HA.out.c3
  have a4 := HA.out.c4
  have af := HA.out.fz
  clear hb HX HBB HBu
  go_upto_region 10 with fail
  go_cut [9] (fun v wx => v = .slice none 0 0 ∧ Hid (∃ z0 z1 z2 z3 z4, Mid w wx w.heap.size (.slice q1 no c1) (.slice q2 k2 c2) fe dn z0 z1 z2 z3 z4))
  case first =>
    go_wp2_with fail
    go_meet
    refine ⟨rfl, Lib.hid ⟨_, _, _, _, _, ⟨((((HA.out.set0 _).set1 _).set2 _).set3 _).set4 _, ((((HRR.out.other (Nat.succ_ne_self _) _).other (Nat.succ_ne_self _) _).other (Nat.succ_ne_self _) _).other (Nat.succ_ne_self _) _).other (Nat.succ_ne_self _) _, ?_⟩⟩⟩
    repeat' refine Below.setCell ?_ (by first | exact Nat.le_refl _ | exact Nat.le_succ _) _
    exact HB.out
  case rest =>
    obtain ⟨rfl, hm⟩ := hcut
    obtain ⟨z0, z1, z2, z3, z4, hM⟩ := hm.out
    have HM := Lib.hid hM
    clear hm hM HA HRR HB a0 a1 a2 a3 a4 af
    have a0 := HM.out.a.c0
    have a1 := HM.out.a.c1
    have a2 := HM.out.a.c2
    have a3 := HM.out.a.c3
    have a4 := HM.out.a.c4
    have af := HM.out.a.fz
    obtain ⟨i0, hi0, hz0, hz1, hz2⟩ := info_parts info73
    have HI := Lib.hid hi0
    have HZ0 := Lib.hid hz0
    have HZ1 := Lib.hid hz1
    have HZ2 := Lib.hid hz2
    clear hi0 hz0 hz1 hz2
    have HRC : Hid (wc.ownsRow 0 73 2 (.slice q2 k2 c2) n R) := Lib.hid (own_chg HR.out (Chg.of_below (F := []) HM.out.below) (fun k hk => by cases hk) (by decide))
    go_upto_region 11 with fail
    rcases HV.out with ⟨rfl, rfl, rfl, hn0⟩ | ⟨g2, rfl, hkn⟩
    · have HN0 := Lib.hid hn0
      clear hn0
      go_cut [9] (fun v wx => ∃ q c, v = .slice q n c ∧ Hid (wx.ownsRow w.heap.size 73 2 (.slice q n c) n R ∧ Mid w wx w.heap.size (.slice q1 no c1) (.slice none 0 0) fe dn z0 z1 z2 z3 z4))
      case first =>
        have h0 : R = [] := List.length_eq_zero_iff.1 (by rw [HRC.out.1, HN0.out])
        have HN : Hid (wc.ownsRow w.heap.size 73 2 (.slice none n 0) n R) := Lib.hid (by rw [h0, HN0.out]; exact World.ownsRow_nil _ _ _ _)
        have HNIL : Hid (wc.ownsRow w.heap.size 73 2 (.slice none 0 0) 0 []) := Lib.hid (World.ownsRow_nil _ _ _ _)
        clear h0
        go_wp2_with (at_builtin; refine wpList_append_own_none rfl _ _ 31 rfl w.heap.size 73 i0 2 Try.underlying31 HI.out _ 0 [] rfl HNIL.out rfl ?_)
        go_wp2_with fail
        go_meet
        exact ⟨none, 0, by rw [HN0.out], HN.out, HM.out⟩
      case rest =>
        obtain ⟨q, c, rfl, hc2⟩ := hcut
        have HO := Lib.hid hc2.out.1
        have HM2 := Lib.hid hc2.out.2
        clear hc2 HM HRC a0 a1 a2 a3 a4 af
        have a1 := HM2.out.a.c1
        have af := HM2.out.a.fz
        have HOWN := Lib.hid (fun o : Obj => HO.out.alloc o)
        have HONE : Hid (∀ u ∈ [Value.int .i64 (i : Int), .string S], u.oneCell' = true) := Lib.hid (by
          intro u hu
          simp at hu
          rcases hu with rfl | rfl <;> rfl)
        have H63 : Hid (n + 1 ≤ maxLen) := Lib.hid (by unfold maxLen; omega)
        have HSZ := Lib.hid (fun o : Obj => Nat.le_trans HM2.out.below.size ((Below.refl 0 _).alloc (Nat.zero_le _) o).size)
        go_wp2_with (at_builtin; refine wpList_append_lies _ rfl (.tmp 40) (.tmp 44) 31 rfl w.heap.size 73 i0 (.agg #[.int .i64 0, .string ⟨#[]⟩]) 2 24 Try.underlying31 HI.out HZ0.out HZ1.out HZ2.out rfl (by decide) (.slice q n c) n R (by rfl) (HOWN.out _) ⟨_, 0, none⟩ 1 1 [.int .i64 (i : Int), .string S] (by rfl) rfl (World.news_of_block (heap_alloc_new _ _)) HONE.out (by omega) H63.out (by omega) (HSZ.out _) _ rfl ?_)
        intro gN cap w3 hown hgrow hat _
        have hgb : ∀ j, (Value.slice q n c).ownBlock = some j → j ≠ w.heap.size ∧ j ≠ w.heap.size + 1 := fun j e => by
          obtain ⟨cur, hc⟩ := own_head HO.out e
          exact ⟨ne_of_ty hc HM2.out.a.hd (by decide), ne_of_ty hc HM2.out.r.hd (by decide)⟩
        have hC := grow_chg hgrow
        have hA : Box5 w3 w.heap.size (.slice q1 no c1) (.slice none 0 0) (.int .i64 fe) (.bool false) (.int .i64 ((dn + 1 : Nat) : Int)) := ⟨(hC.block _ HM2.out.a.lt (fun e => (hgb _ (by simpa using e)).1 rfl)).trans HM2.out.a.hd⟩
        have hR : Box5 w3 (w.heap.size + 1) z0 z1 z2 z3 z4 := ⟨(hC.block _ HM2.out.r.lt (fun e => (hgb _ (by simpa using e)).2 rfl)).trans HM2.out.r.hd⟩
        have hN1 : gN ≠ w.heap.size := by obtain ⟨cur, hc⟩ := own_head hown rfl; exact ne_of_ty hc hA.hd (by decide)
        have hN2 : gN ≠ w.heap.size + 1 := by obtain ⟨cur, hc⟩ := own_head hown rfl; exact ne_of_ty hc hR.hd (by decide)
        have HB3 : Hid (Below w.heap.size w w3) := Lib.hid (hC.below HM2.out.below HM2.out.below.size (fun k hk => (HO.out.lt k (by simpa using hk)).1))
        have HF : Hid (w3.ownsRow 0 73 2 (.slice (some ⟨gN, 0, none⟩) (n + 1) cap) (n + 1) RN) := Lib.hid (by rw [HSN.out]; exact base0 hown)
        clear a1 af hown hgrow hat hgb hC HO HM2 HOWN HSZ
        have a0 := hA.c0
        have a1 := hA.c1
        have a2 := hA.c2
        have a3 := hA.c3
        have a4 := hA.c4
        have af := hA.fz
        have r0 := hR.c0
        have r1 := hR.c1
        have r2 := hR.c2
        have r3 := hR.c3
        have r4 := hR.c4
        have rf := hR.fz
        have HN1 := Lib.hid hN1
        have HN2 := Lib.hid hN2
        clear hA hR hN1 hN2
        go_wp2_with fail
        refine bodyPost_ret (v := .tuple #[.agg #[.slice q1 no c1, .slice (some ⟨gN, 0, none⟩) (n + 1) cap, .int .i64 fe, .bool false, .int .i64 ((dn + 1 : Nat) : Int)], .int .i64 0]) (by simp [results, Try.results29, go_sem, r0, r1, r2, r3, r4]) rfl ⟨⟨_, rfl, ?_⟩, ?_⟩
        · refine own_other HF.out (fun k hk => ?_)
          cases hk
          iterate 5 refine (heap_setCell_other _ _ _ _ HN2.out).trans ?_
          exact heap_setCell_other _ _ _ _ HN1.out
        · repeat' refine Below.setCell ?_ (by first | exact Nat.le_refl _ | exact Nat.le_succ _) _
          exact HB3.out
    · obtain rfl : n = k2 := hkn.symm
      go_cut [9] (fun v wx => ∃ q c, v = .slice q n c ∧ Hid (wx.ownsRow w.heap.size 73 2 (.slice q n c) n R ∧ Mid w wx w.heap.size (.slice q1 no c1) (.slice (some ⟨g2, 0, none⟩) n c2) fe dn z0 z1 z2 z3 z4))
      case first =>
        have HNIL : Hid (wc.ownsRow w.heap.size 73 2 (.slice none 0 0) 0 []) := Lib.hid (World.ownsRow_nil _ _ _ _)
        have HNEW := Lib.hid (own_news HRC.out)
        have HLN : Hid (R.length = n * 2) := Lib.hid HRC.out.1
        have H63 : Hid (0 + n ≤ maxLen) := Lib.hid (by unfold maxLen; omega)
        have HSZ := Lib.hid HM.out.below.size
        go_wp2_with (at_builtin; refine wpList_append_own _ rfl _ _ 31 rfl w.heap.size 73 i0 (.agg #[.int .i64 0, .string ⟨#[]⟩]) 2 24 Try.underlying31 HI.out HZ0.out HZ1.out HZ2.out rfl (by decide) _ 0 [] rfl HNIL.out ⟨g2, 0, none⟩ n c2 R rfl HLN.out HNEW.out HWO.out H63.out (by omega) HSZ.out ?_)
        intro v2 w3 hown2 hgrow _
        have hown3 : w3.ownsRow w.heap.size 73 2 v2 n R := by simpa using hown2
        obtain ⟨q3, c3, hv2⟩ := own_form hown3
        subst hv2
        have hb3 : Below wc.heap.size wc w3 := (Below.refl _ _).grown hgrow (Nat.le_refl _) (fun k e => by cases e)
        have HN : Hid (w3.ownsRow w.heap.size 73 2 (.slice q3 n c3) n R ∧ Mid w w3 w.heap.size (.slice q1 no c1) (.slice (some ⟨g2, 0, none⟩) n c2) fe dn z0 z1 z2 z3 z4) := Lib.hid
          ⟨hown3, HM.out.a.below hb3, HM.out.r.below hb3, HM.out.below.trans (hb3.mono HM.out.below.size)⟩
        clear hown2 hown3 hgrow hb3
        go_wp2_with fail
        go_meet
        exact ⟨_, _, rfl, HN.out⟩
      case rest =>
        obtain ⟨q, c, rfl, hc2⟩ := hcut
        have HO := Lib.hid hc2.out.1
        have HM2 := Lib.hid hc2.out.2
        clear hc2 HM HRC a0 a1 a2 a3 a4 af
        have a1 := HM2.out.a.c1
        have af := HM2.out.a.fz
        have HOWN := Lib.hid (fun o : Obj => HO.out.alloc o)
        have HONE : Hid (∀ u ∈ [Value.int .i64 (i : Int), .string S], u.oneCell' = true) := Lib.hid (by
          intro u hu
          simp at hu
          rcases hu with rfl | rfl <;> rfl)
        have H63 : Hid (n + 1 ≤ maxLen) := Lib.hid (by unfold maxLen; omega)
        have HSZ := Lib.hid (fun o : Obj => Nat.le_trans HM2.out.below.size ((Below.refl 0 _).alloc (Nat.zero_le _) o).size)
        go_wp2_with (at_builtin; refine wpList_append_lies _ rfl (.tmp 40) (.tmp 44) 31 rfl w.heap.size 73 i0 (.agg #[.int .i64 0, .string ⟨#[]⟩]) 2 24 Try.underlying31 HI.out HZ0.out HZ1.out HZ2.out rfl (by decide) (.slice q n c) n R (by rfl) (HOWN.out _) ⟨_, 0, none⟩ 1 1 [.int .i64 (i : Int), .string S] (by rfl) rfl (World.news_of_block (heap_alloc_new _ _)) HONE.out (by omega) H63.out (by omega) (HSZ.out _) _ rfl ?_)
        intro gN cap w3 hown hgrow hat _
        have hgb : ∀ j, (Value.slice q n c).ownBlock = some j → j ≠ w.heap.size ∧ j ≠ w.heap.size + 1 := fun j e => by
          obtain ⟨cur, hc⟩ := own_head HO.out e
          exact ⟨ne_of_ty hc HM2.out.a.hd (by decide), ne_of_ty hc HM2.out.r.hd (by decide)⟩
        have hC := grow_chg hgrow
        have hA : Box5 w3 w.heap.size (.slice q1 no c1) (.slice (some ⟨g2, 0, none⟩) n c2) (.int .i64 fe) (.bool false) (.int .i64 ((dn + 1 : Nat) : Int)) := ⟨(hC.block _ HM2.out.a.lt (fun e => (hgb _ (by simpa using e)).1 rfl)).trans HM2.out.a.hd⟩
        have hR : Box5 w3 (w.heap.size + 1) z0 z1 z2 z3 z4 := ⟨(hC.block _ HM2.out.r.lt (fun e => (hgb _ (by simpa using e)).2 rfl)).trans HM2.out.r.hd⟩
        have hN1 : gN ≠ w.heap.size := by obtain ⟨cur, hc⟩ := own_head hown rfl; exact ne_of_ty hc hA.hd (by decide)
        have hN2 : gN ≠ w.heap.size + 1 := by obtain ⟨cur, hc⟩ := own_head hown rfl; exact ne_of_ty hc hR.hd (by decide)
        have HB3 : Hid (Below w.heap.size w w3) := Lib.hid (hC.below HM2.out.below HM2.out.below.size (fun k hk => (HO.out.lt k (by simpa using hk)).1))
        have HF : Hid (w3.ownsRow 0 73 2 (.slice (some ⟨gN, 0, none⟩) (n + 1) cap) (n + 1) RN) := Lib.hid (by rw [HSN.out]; exact base0 hown)
        clear a1 af hown hgrow hat hgb hC HO HM2 HOWN HSZ
        have a0 := hA.c0
        have a1 := hA.c1
        have a2 := hA.c2
        have a3 := hA.c3
        have a4 := hA.c4
        have af := hA.fz
        have r0 := hR.c0
        have r1 := hR.c1
        have r2 := hR.c2
        have r3 := hR.c3
        have r4 := hR.c4
        have rf := hR.fz
        have HN1 := Lib.hid hN1
        have HN2 := Lib.hid hN2
        clear hA hR hN1 hN2
        go_wp2_with fail
        refine bodyPost_ret (v := .tuple #[.agg #[.slice q1 no c1, .slice (some ⟨gN, 0, none⟩) (n + 1) cap, .int .i64 fe, .bool false, .int .i64 ((dn + 1 : Nat) : Int)], .int .i64 0]) (by simp [results, Try.results29, go_sem, r0, r1, r2, r3, r4]) rfl ⟨⟨_, rfl, ?_⟩, ?_⟩
        · refine own_other HF.out (fun k hk => ?_)
          cases hk
          iterate 5 refine (heap_setCell_other _ _ _ _ HN2.out).trans ?_
          exact heap_setCell_other _ _ _ _ HN1.out
        · repeat' refine Below.setCell ?_ (by first | exact Nat.le_refl _ | exact Nat.le_succ _) _
          exact HB3.out
end Go.Proofs.Ytdldjpgbifcljaa
