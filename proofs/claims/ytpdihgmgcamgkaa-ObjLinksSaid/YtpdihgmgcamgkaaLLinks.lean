/- ObjLinks: the walk. -/
import Derived.Test.YtpdihgmgcamgkaaLWrites
import Derived.Test.YtpdihgmgcamgkaaTurn
set_option linter.unusedSimpArgs false
set_option maxRecDepth 20000
namespace Go.Proofs.Ytpdihgmgcamgkaa
open Go.RowKit Go.Shelf

theorem links_at (l : List Pt) (i : Nat) (h : i < l.length) (h8 : (l.getD i default).k = 8) : (linksM (l.take i)).length < (linksM l).length ∧ (linksM l).getD (linksM (l.take i)).length 0 = (l.getD i default).n := by
  have e : linksM l = linksM (l.take i) ++ ([(l.getD i default).n] ++ linksM (l.drop (i + 1))) := by
    have h1 : l = l.take i ++ (l.getD i default :: l.drop (i + 1)) := by
      rw [List.getD_eq_getElem?_getD, List.getElem?_eq_getElem h]
      show l = l.take i ++ (l[i] :: l.drop (i + 1))
      rw [← List.drop_eq_getElem_cons h, List.take_append_drop]
    have h2 : linksM l = linksM (l.take i ++ (l.getD i default :: l.drop (i + 1))) := congrArg linksM h1
    rw [h2]
    unfold linksM
    rw [List.filterMap_append]
    refine congrArg (_ ++ ·) ?_
    show List.filterMap _ ([l.getD i default] ++ _) = _
    rw [List.filterMap_append]
    refine congrArg (· ++ _) ?_
    exact List.filterMap_cons_some (if_pos h8)
  constructor
  · have := congrArg List.length e
    rw [List.length_append, List.length_append] at this
    simp at this
    omega
  · have := congrArg (fun L => L.getD (linksM (l.take i)).length 0) e
    refine this.trans ?_
    show (linksM (l.take i) ++ _).getD _ 0 = _
    rw [ List.getD_eq_getElem?_getD, List.getElem?_append_right (Nat.le_refl _), Nat.sub_self]
    rfl
theorem map_get (l : List Pt) (f : Pt → Pt) (i : Nat) (h : i < l.length) : (l.map f).getD i default = f (l.getD i default) := by
  rw [List.getD_eq_getElem?_getD, List.getElem?_map, List.getD_eq_getElem?_getD, List.getElem?_eq_getElem h]; rfl
theorem rec_three (w : World) (a b c : Obj) : ((((w.alloc a).alloc b).alloc c).heap[w.heap.size]? = some a ∧ (((w.alloc a).alloc b).alloc c).heap[w.heap.size + 1]? = some b ∧ (((w.alloc a).alloc b).alloc c).heap[w.heap.size + 1 + 1]? = some c) ∧ Below w.heap.size w (((w.alloc a).alloc b).alloc c) := by
  have h1 : (w.alloc a).heap.size = w.heap.size + 1 := by simp
  have h2 : ((w.alloc a).alloc b).heap.size = w.heap.size + 1 + 1 := by simp
  refine ⟨⟨?_, ?_, ?_⟩, (((Below.refl _ _).alloc (Nat.le_refl _) _).alloc (by omega) _).alloc (by omega) _⟩
  · rw [Below.heap_alloc _ _ _ (by omega), Below.heap_alloc _ _ _ (by omega)]; exact heap_alloc_new w a
  · rw [Below.heap_alloc _ _ _ (by omega)]
    have := heap_alloc_new (w.alloc a) b
    rwa [h1] at this
  · have := heap_alloc_new ((w.alloc a).alloc b) c
    rwa [h2] at this
set_option maxHeartbeats 12800000 in
theorem links_walk (a b : Rc) (qa qb : Option Addr) (ca cb : Nat) (by_ : Int) (W : World) (hna : a.parts.length ≤ 9223372036854775807) (hnb : b.parts.length ≤ 9223372036854775807) (hPa : Pts W qa a.parts.length a.parts) (hPb : Pts W qb b.parts.length b.parts) :
    Calls Try.prog 5 #[a.val qa ca, b.val qb cb, .int .i64 by_] W fun e w' => e = .returned (.bool true) ∧ Below W.heap.size W w' := by
  have HPA := Lib.hid hPa
  have HPB := Lib.hid hPb
  have HSA := Lib.hid (fun w (h : Pts w qa a.parts.length a.parts) => small_any a qa ca w hna h)
  have HSB := Lib.hid (fun w (h : Pts w qb b.parts.length b.parts) => small_any b qb cb w hnb h)
  have HMA := Lib.hid (fun (hn : a.parts.length ≤ 1000) w (h : Pts w qa a.parts.length a.parts) => mine_any a qa ca w hn h)
  have HMB := Lib.hid (fun (hn : b.parts.length ≤ 1000) w (h : Pts w qb b.parts.length b.parts) => mine_any b qb cb w hn h)
  have HTU := Lib.hid (fun (hn : a.parts.length ≤ 1000) q c B w (h : Pts w q a.parts.length a.parts) (hB : w.cell? ⟨B, 0, none⟩ = some (.int .i64 by_)) => turn_any a q c by_ B w hn h hB)
  have HLK := Lib.hid (fun (hn : a.parts.length ≤ 1000) q c w (h : Pts w q a.parts.length a.parts) => links_any a q c w hn h)
  have HTH := Lib.hid (fun (hn : a.parts.length ≤ 1000) q c w (h : Pts w q a.parts.length (a.parts.map (turnP by_))) => theirs_any ⟨a.kind, a.parts.map (turnP by_), a.bytes⟩ q c w (by rw [List.length_map]; exact hn) (by rw [List.length_map]; exact h))
  have HSM := Lib.hid (fun q1 c1 q2 c2 w (h1 : Pts w q1 a.parts.length a.parts) (h2 : Pts w q2 b.parts.length b.parts) => same_any a b q1 q2 c1 c2 w hna h1 h2)
  have HRS := Lib.hid (fun w (h1 : Pts w qa a.parts.length a.parts) (h2 : Pts w qb b.parts.length b.parts) => rsame_any a b qa qb ca cb w hna h1 h2)
  have HMG := Lib.hid (fun i h => map_get a.parts (turnP by_) i h)
  have HLA := Lib.hid (fun i h h8 => links_at a.parts i h h8)
  have HLS := Lib.hid (fun i (h : i < a.parts.length) => (congrArg linksM (take_pt a.parts i h)).trans (linksM_snoc _ _))
  have HLL := Lib.hid (linksM_len a.parts)
  unfold RecR Rc.val at HMA HMB HTU HTH
  unfold Rc.val at HSA HSB HLK HSM HRS
  unfold Rc.val
  simp only [List.length_map] at HTU HTH
  obtain ⟨na, HNA⟩ : ∃ n, Hid (a.parts.length = n) := ⟨_, Lib.hid rfl⟩
  obtain ⟨nb, HNB⟩ : ∃ n, Hid (b.parts.length = n) := ⟨_, Lib.hid rfl⟩
  rw [HNA.out] at HPA HSA HMA HTU HLK HTH HSM HRS HMG HLA HLS HLL hna ⊢
  rw [HNB.out] at HPB HSB HMB HSM HRS hnb ⊢
  clear hPa hPb
  go_enter Try.func5, Try.ntmps5
  go_upto_region 1 with fail
  obtain ⟨⟨t1, t2, t3⟩, hb0⟩ := rec_three W (.cells #[.int .i64 a.kind, .slice qa na ca, .string a.bytes] 24) (.cells #[.int .i64 b.kind, .slice qb nb cb, .string b.bytes] 24) (.cells #[.int .i64 by_] 3)
  generalize ((W.alloc (.cells #[.int .i64 a.kind, .slice qa na ca, .string a.bytes] 24)).alloc (.cells #[.int .i64 b.kind, .slice qb nb cb, .string b.bytes] 24)).alloc (.cells #[.int .i64 by_] 3) = W0 at *
  have HB0 := Lib.hid hb0
  have HCA : Hid (∀ u, Below W0.heap.size W0 u → u.cell? ⟨W.heap.size, 0, none⟩ = some (.int .i64 a.kind) ∧ u.cell? ⟨W.heap.size, 1, none⟩ = some (.slice qa na ca) ∧ u.cell? ⟨W.heap.size, 2, none⟩ = some (.string a.bytes)) := Lib.hid (fun u hu => by
    have h := (hu.block _ (lt_of_block t1)).trans t1
    refine ⟨?_, ?_, ?_⟩ <;> (rw [cell_of_row _ _ _ _ _ _ h]; rfl))
  have HCB : Hid (∀ u, Below W0.heap.size W0 u → u.cell? ⟨W.heap.size + 1, 0, none⟩ = some (.int .i64 b.kind) ∧ u.cell? ⟨W.heap.size + 1, 1, none⟩ = some (.slice qb nb cb) ∧ u.cell? ⟨W.heap.size + 1, 2, none⟩ = some (.string b.bytes)) := Lib.hid (fun u hu => by
    have h := (hu.block _ (lt_of_block t2)).trans t2
    refine ⟨?_, ?_, ?_⟩ <;> (rw [cell_of_row _ _ _ _ _ _ h]; rfl))
  have HCC : Hid (∀ u, Below W0.heap.size W0 u → u.cell? ⟨W.heap.size + 1 + 1, 0, none⟩ = some (.int .i64 by_)) := Lib.hid (fun u hu => by
    have h := (hu.block _ (lt_of_block t3)).trans t3
    rw [cell_of_row _ _ _ _ _ _ h]; rfl)
  have HPA0 := Lib.hid (HPA.out.below hb0)
  have HPB0 := Lib.hid (HPB.out.below hb0)
  clear t1 t2 t3 hb0
  obtain ⟨a0, a1, a2⟩ := HCA.out W0 (Below.refl _ _)
  go_wp2_with fail
  refine (HSA.out _ HPA0.out).mono ?_
  rintro e w1 ⟨rfl, hb1⟩
  have HB1 := Lib.hid hb1
  have HB1W := Lib.hid (HB0.out.trans (hb1.mono HB0.out.size))
  clear hb1 a0 a1 a2
  by_cases hsa : smallM a = false
  · rw [hsa]
    go_wp2_with fail
    refine (lives_any _).mono ?_
    rintro e w9 ⟨rfl, hb9⟩
    have HB9 := Lib.hid (HB1W.out.trans (hb9.mono HB1W.out.size))
    clear hb9
    go_wp2_with fail
    go_ret
    exact ⟨rfl, HB9.out⟩
  have hsa' : smallM a = true := by simpa using hsa
  rw [hsa']
  have hl3 : na ≤ 1000 := by
    unfold smallM at hsa'
    rw [Bool.and_eq_true, decide_eq_true_eq, HNA.out] at hsa'
    omega
  clear hsa hsa'
  obtain ⟨b0, b1, b2⟩ := HCB.out w1 HB1.out
  go_wp2_with fail
  refine (HSB.out _ (HPB0.out.below HB1.out)).mono ?_
  rintro e w2 ⟨rfl, hb2⟩
  have HB2 := Lib.hid (HB1.out.trans (hb2.mono HB1.out.size))
  have HB2W := Lib.hid (HB0.out.trans (HB2.out.mono HB0.out.size))
  clear hb2 b0 b1 b2
  by_cases hsb : smallM b = false
  · rw [hsb]
    go_wp2_with fail
    refine (lives_any _).mono ?_
    rintro e w9 ⟨rfl, hb9⟩
    have HB9 := Lib.hid (HB2W.out.trans (hb9.mono HB2W.out.size))
    clear hb9
    go_wp2_with fail
    go_ret
    exact ⟨rfl, HB9.out⟩
  have hsb' : smallM b = true := by simpa using hsb
  rw [hsb']
  have hl4 : nb ≤ 1000 := by
    unfold smallM at hsb'
    rw [Bool.and_eq_true, decide_eq_true_eq, HNB.out] at hsb'
    omega
  clear hsb hsb'
  obtain ⟨a0, a1, a2⟩ := HCA.out w2 HB2.out
  go_wp2_with fail
  refine (HMA.out hl3 _ (HPA0.out.below HB2.out)).mono ?_
  rintro e w3 ⟨q3, c3, rfl, hp3, hb3⟩
  have HB3 := Lib.hid (HB2.out.trans (hb3.mono HB2.out.size))
  have HP3 := Lib.hid hp3
  clear hb3 hp3 a0 a1 a2
  go_wp2_with fail
  refine (HLK.out hl3 q3 c3 _ HP3.out).mono ?_
  rintro e w4 ⟨ql, cl, rfl, hil, hb4⟩
  have HB4 := Lib.hid (HB3.out.trans (hb4.mono HB3.out.size))
  have HIL := Lib.hid hil
  clear hil hb4
  obtain ⟨a0, a1, a2⟩ := HCA.out w4 HB4.out
  go_wp2_with fail
  refine (HMA.out hl3 _ (HPA0.out.below HB4.out)).mono ?_
  rintro e w5 ⟨q5, c5, rfl, hp5, hb5⟩
  have HB5 := Lib.hid (HB4.out.trans (hb5.mono HB4.out.size))
  have HP5 := Lib.hid hp5
  have HIL5 := Lib.hid (HIL.out.below hb5)
  clear hb5 hp5 a0 a1 a2
  go_wp2_with fail
  refine (HTU.out hl3 q5 c5 _ w5 HP5.out (HCC.out w5 HB5.out)).mono ?_
  rintro e wt ⟨qt, ct, rfl, hpt, hbt⟩
  have HBT := Lib.hid (HB5.out.trans (hbt.mono HB5.out.size))
  have HPT := Lib.hid hpt
  have HILT := Lib.hid (HIL5.out.below hbt)
  clear hbt hpt
  go_wp2_with fail
  refine (HTH.out hl3 qt ct wt HPT.out).mono ?_
  rintro e w6 ⟨q6, c6, rfl, hp6, hb6⟩
  have HB6 := Lib.hid (HBT.out.trans (hb6.mono HBT.out.size))
  have hva : Below w6.heap.size w6 (w6.alloc (.cells #[.int .i64 a.kind, .slice q6 na c6, .string a.bytes] 24)) := (Below.refl _ _).alloc (Nat.le_refl _) _
  have HXT := Lib.hid (heap_alloc_new w6 (.cells #[.int .i64 a.kind, .slice q6 na c6, .string a.bytes] 24))
  have HP6 := Lib.hid (hp6.below hva)
  have HIL6 := Lib.hid ((HILT.out.below hb6).below hva)
  clear hp6 hb6
  go_upto_region 6 with fail
  generalize w6.alloc (.cells #[.int .i64 a.kind, .slice q6 na c6, .string a.bytes] 24) = V at *
  have HBV := Lib.hid (HB6.out.trans (hva.mono HB6.out.size))
  have HCT : Hid (∀ u, Below V.heap.size V u → u.cell? ⟨w6.heap.size, 0, none⟩ = some (.int .i64 a.kind) ∧ u.cell? ⟨w6.heap.size, 1, none⟩ = some (.slice q6 na c6) ∧ u.cell? ⟨w6.heap.size, 2, none⟩ = some (.string a.bytes)) := Lib.hid (fun u hu => by
    have h := (hu.block _ (lt_of_block HXT.out)).trans HXT.out
    refine ⟨?_, ?_, ?_⟩ <;> (rw [cell_of_row _ _ _ _ _ _ h]; rfl))
  have HALL : Hid (∀ u, Below V.heap.size V u → u.cell? ⟨w6.heap.size, 0, none⟩ = some (.int .i64 a.kind) ∧ u.cell? ⟨w6.heap.size, 1, none⟩ = some (.slice q6 na c6) ∧ u.cell? ⟨w6.heap.size, 2, none⟩ = some (.string a.bytes) ∧ u.cell? ⟨W.heap.size, 0, none⟩ = some (.int .i64 a.kind) ∧ u.cell? ⟨W.heap.size, 1, none⟩ = some (.slice qa na ca) ∧ u.cell? ⟨W.heap.size, 2, none⟩ = some (.string a.bytes) ∧ u.cell? ⟨W.heap.size + 1, 0, none⟩ = some (.int .i64 b.kind) ∧ u.cell? ⟨W.heap.size + 1, 1, none⟩ = some (.slice qb nb cb) ∧ u.cell? ⟨W.heap.size + 1, 2, none⟩ = some (.string b.bytes)) := Lib.hid (fun u hu => by
    have hu0 := HBV.out.trans (hu.mono HBV.out.size)
    obtain ⟨x0, x1, x2⟩ := HCT.out u hu
    obtain ⟨y0, y1, y2⟩ := HCA.out u hu0
    exact ⟨x0, x1, x2, y0, y1, y2, HCB.out u hu0⟩)
  have HPAV := Lib.hid (HPA0.out.below HBV.out)
  have HPBV := Lib.hid (HPB0.out.below HBV.out)
  clear hva
  go_cut [59] (fun v wx => v = .bool false ∧ Hid (Below V.heap.size V wx))
  case first =>
    obtain ⟨z0, z1, z2, z3, z4, z5, z6, z7, z8⟩ := HALL.out V (Below.refl _ _)
    obtain ⟨sm, hsm⟩ : ∃ x, Hid (sameM a b = x) := ⟨_, Lib.hid rfl⟩
    rw [hsm.out] at HSM HRS
    have g1 : (a.kind != a.kind) = false := by simp
    have g2 : (sm != sm) = false := by simp
    have g3 : (a.bytes.toList == a.bytes.toList) = true := by simp
    have g4 : ((na : Int) != (na : Int)) = false := by simp
    go_region_held3 (fun u : World => u.cell? ⟨w6.heap.size, 0, none⟩ = some (.int .i64 a.kind) ∧ u.cell? ⟨w6.heap.size, 1, none⟩ = some (.slice q6 na c6) ∧ u.cell? ⟨w6.heap.size, 2, none⟩ = some (.string a.bytes) ∧ u.cell? ⟨W.heap.size, 0, none⟩ = some (.int .i64 a.kind) ∧ u.cell? ⟨W.heap.size, 1, none⟩ = some (.slice qa na ca) ∧ u.cell? ⟨W.heap.size, 2, none⟩ = some (.string a.bytes) ∧ u.cell? ⟨W.heap.size + 1, 0, none⟩ = some (.int .i64 b.kind) ∧ u.cell? ⟨W.heap.size + 1, 1, none⟩ = some (.slice qb nb cb) ∧ u.cell? ⟨W.heap.size + 1, 2, none⟩ = some (.string b.bytes)) ((first
        | with_reducible exact ⟨z0, z1, z2, z3, z4, z5, z6, z7, z8⟩
        | go_keep)) (first
      | (go_at_call 10
         first
           | (with_reducible refine (HMA.out hl3 _ ?hyp).mono ?_
              case hyp => first | exact HPAV.out.below hL | exact HPAV.out.below ((Below.refl _ _).drew)
              rintro e wa ⟨qx, cx, rfl, hpA, hb⟩
              first
                | (have hL := hL.trans (hb.mono hL.size))
                | (have hL : Below V.heap.size V wa := (Below.refl _ _).drew.trans hb)
              (try have hpB := hpB.below hb)
              obtain ⟨z0, z1, z2, z3, z4, z5, z6, z7, z8⟩ := HALL.out _ hL)
           | (with_reducible refine (HMB.out hl4 _ ?hyp).mono ?_
              case hyp => first | exact HPBV.out.below hL | exact HPBV.out.below ((Below.refl _ _).drew)
              rintro e wb ⟨qy, cy, rfl, hpB, hb⟩
              first
                | (have hL := hL.trans (hb.mono hL.size))
                | (have hL : Below V.heap.size V wb := (Below.refl _ _).drew.trans hb)
              (try have hpA := hpA.below hb)
              obtain ⟨z0, z1, z2, z3, z4, z5, z6, z7, z8⟩ := HALL.out _ hL))
      | (go_at_call 20
         refine (HSM.out _ _ _ _ _ hpA hpB).mono ?_
         rintro e ws ⟨rfl, hb⟩
         have hL := hL.trans (hb.mono hL.size)
         obtain ⟨z0, z1, z2, z3, z4, z5, z6, z7, z8⟩ := HALL.out _ hL)
      | (go_at_call 15
         refine (HRS.out _ ?hyp1 ?hyp2).mono ?_
         case hyp1 => first | exact HPAV.out.below hL | exact HPAV.out.below ((Below.refl _ _).drew)
         case hyp2 => first | exact HPBV.out.below hL | exact HPBV.out.below ((Below.refl _ _).drew)
         rintro e wr ⟨rfl, hb⟩
         first
           | (have hL := hL.trans (hb.mono hL.size))
           | (have hL : Below V.heap.size V wr := (Below.refl _ _).drew.trans hb)
         (try have hpA := hpA.below hb)
         (try have hpB := hpB.below hb)
         obtain ⟨z0, z1, z2, z3, z4, z5, z6, z7, z8⟩ := HALL.out _ hL))
    all_goals
      go_wp2_with fail
      go_meet
      exact ⟨rfl, Lib.hid (by first | exact hL | exact hL.drew)⟩
  case rest =>
    obtain ⟨rfl, HBC⟩ := hcut
    --REST
    have HCX : Hid (∀ u, Below V.heap.size V u → u.cell? ⟨W.heap.size + 1 + 1, 0, none⟩ = some (.int .i64 by_)) := Lib.hid (fun u hu => HCC.out u (HBV.out.trans (hu.mono HBV.out.size)))
    have HWF : Hid (∀ u, Below V.heap.size V u → Below W.heap.size W u) := Lib.hid (fun u hu => HB0.out.trans ((HBV.out.trans (hu.mono HBV.out.size)).mono HB0.out.size))
    clear HMA HMB HTU HLK HTH HSM HRS HSA HSB HCT HCA HCB HCC HXT HP3 HP5 HPT HIL HIL5 HILT HB1 HB1W HB2 HB2W HB3 HB4 HB5 HBT HB6 HBV HB0 HPA0 HPB0 HPA HPB HPBV
    go_wp2_with fail
    go_loopw [9, 10] (fun nv iv wr => ∃ i : Nat, i ≤ na ∧ nv = .int .i64 ((linksM (a.parts.take i)).length : Int) ∧ iv = .int .i64 (i : Int) ∧ Hid (Below V.heap.size V wr)) (fun _ iv _ => na - (intOf iv).toNat)
    case atStart => exact ⟨0, by omega, rfl, by go_num, HBC⟩
    case round =>
      obtain ⟨i, hi, rfl, rfl, HB⟩ := hrel
      obtain ⟨z0, z1, z2, z3, z4, z5, z6, z7, z8⟩ := HALL.out _ HB.out
      have zc := HCX.out _ HB.out
      by_cases hlt : i < na
      · obtain ⟨b1, o1, rfl, hc1⟩ := (HPAV.out.below HB.out).2 (by omega)
        obtain ⟨b2, o2, rfl, hc2⟩ := (HP6.out.below HB.out).2 (by omega)
        obtain ⟨p0, p1, p2⟩ := hc1 i hlt
        obtain ⟨r0, r1, r2⟩ := hc2 i hlt
        rw [HMG.out i hlt] at r0 r1 r2
        have hd1 : decide ((i : Int) < (na : Int)) = true := by simp; omega
        have hLS := HLS.out i hlt
        have hLA := HLA.out i hlt
        clear hc1 hc2
        obtain ⟨x, HX⟩ : ∃ x, Hid (a.parts.getD i default = x) := ⟨_, Lib.hid rfl⟩
        rw [HX.out] at p0 p1 p2 r0 r1 r2 hLS hLA
        by_cases h8 : x.k = 8
        · obtain ⟨hm, hat⟩ := hLA h8
          obtain ⟨bl, ol, rfl, hcl⟩ := (HIL6.out.below HB.out).2 (by omega)
          have l0 := hcl _ hm
          rw [hat] at l0
          rw [if_pos h8] at hLS
          have HLN : Hid ((linksM (a.parts.take (i + 1))).length = (linksM (a.parts.take i)).length + 1) := Lib.hid (by rw [hLS, List.length_append]; rfl)
          obtain ⟨m, HM⟩ : ∃ m, Hid ((linksM (a.parts.take i)).length = m) := ⟨_, Lib.hid rfl⟩
          obtain ⟨L, HL⟩ : ∃ L, Hid ((linksM a.parts).length = L) := ⟨_, Lib.hid rfl⟩
          have hLL := HLL.out
          rw [HL.out] at hLL hm ⊢
          rw [HM.out] at l0 hm HLN ⊢
          have ht : turnP by_ x = { x with n := xorM x.n by_ } := by unfold turnP; rw [if_pos h8]
          rw [ht] at r0 r1 r2
          simp only at r0 r1 r2
          unfold xorM at r1
          rw [h8] at p0 r0
          have g1 : decide ((L : Int) ≤ (m : Int)) = false := by simp; omega
          have g2 : (x.n != x.n) = false := by simp
          have g3 : (x.s.toList == x.s.toList) = true := by simp
          have g4 : (bits .xor .i64 x.n by_ != bits .xor .i64 x.n by_) = false := by simp
          have hm1 : (m : Int) < (L : Int) := by omega
          clear hcl hat hLA hLS ht h8
          go_upto_region 14 with fail
          go_quiet (fail)
          go_wp2_with fail
          go_roundw
          case rel => exact ⟨i + 1, by omega, by rw [HLN.out]; go_num, by go_num, Lib.hid (by first | exact HB.out | exact below_drewN HB.out _)⟩
          case measure => simp [intOf]; omega
        · have ht : turnP by_ x = x := by unfold turnP; rw [if_neg h8]
          rw [ht] at r0 r1 r2
          rw [if_neg h8, List.append_nil] at hLS
          have HLN : Hid ((linksM (a.parts.take (i + 1))).length = (linksM (a.parts.take i)).length) := Lib.hid (by rw [hLS])
          have hk : (x.k != 8) = true := by simpa using h8
          have hNE := fun w => neqR x x w
          have hG := guardR
          have hd2 : decide (x = x) = true := decide_eq_true rfl
          rw [hd2] at hNE
          obtain ⟨m, HM⟩ : ∃ m, Hid ((linksM (a.parts.take i)).length = m) := ⟨_, Lib.hid rfl⟩
          rw [HM.out] at HLN ⊢
          clear hLA hLS ht h8 hd2
          go_upto_region 12 with fail
          go_quiet (fail)
          go_wp2_with fail
          go_roundw
          case rel => exact ⟨i + 1, by omega, by rw [HLN.out], by go_num, Lib.hid (by first | exact HB.out | exact below_drewN HB.out _)⟩
          case measure => simp [intOf]; omega
      · obtain rfl : i = na := by omega
        have HTL : Hid (a.parts.take i = a.parts) := Lib.hid (by rw [← HNA.out, List.take_length])
        rw [HTL.out]
        obtain ⟨m, HM⟩ : ∃ m, Hid ((linksM a.parts).length = m) := ⟨_, Lib.hid rfl⟩
        rw [HM.out]
        have g0 : ((m : Int) == (m : Int)) = true := by simp
        go_wp2_with fail
        refine (lives_any _).mono ?_
        rintro e w9 ⟨rfl, hb9⟩
        have HB9 := Lib.hid (HWF.out _ (HB.out.trans (hb9.mono HB.out.size)))
        clear hb9
        go_wp2_with fail
        go_ret
        exact ⟨rfl, HB9.out⟩
end Go.Proofs.Ytpdihgmgcamgkaa
