/- ObjWrites: the walk. -/
import Derived.Test.YtpdihgmgcamgkaaLCuts
import Derived.Test.YtpdihgmgcamgkaaRBytes
import Derived.Test.YtpdihgmgcamgkaaRMay
import Derived.Test.YtpdihgmgcamgkaaSameR
import Derived.Test.YtpdihgmgcamgkaaTheirs
import Derived.Deep.RegionHeld3
set_option linter.unusedSimpArgs false
set_option maxRecDepth 20000
namespace Go.Proofs.Ytpdihgmgcamgkaa
open Go.RowKit Go.Shelf

theorem same_self (r : Rc) : sameM r r = true := by unfold sameM; simp
theorem Pts.in_ {W : World} (s : In W) {q : Option Addr} {n : Nat} {l : List Pt} (h : Pts W q n l) : Pts s.1 q n l := h.below s.2
theorem encE_may {r : Rc} (h : mayM r = true) : encE r = 0 := by
  unfold encE
  rw [if_neg (by rw [kept_of_may h]; simp), if_neg (by rw [h]; simp)]
set_option maxHeartbeats 6400000 in
theorem writes_walk (r : Rc) (q : Option Addr) (c : Nat) (W : World) (hI : I64 r.kind) (hn : r.parts.length ≤ 9223372036854775807) (hS : r.bytes.size ≤ 9223372036854775807) (hB : ∀ p ∈ r.parts, PtB p) (hP : Pts W q r.parts.length r.parts) :
    Calls Try.prog 3 #[r.val q c] W fun e w' => e = .returned (.bool true) ∧ Below W.heap.size W w' := by
  have HP := Lib.hid hP
  have HB := Lib.hid hB
  clear hP hB
  have HX : Hid ((W.alloc (.cells #[.int .i64 r.kind, .slice q r.parts.length c, .string r.bytes] 24)).heap[W.heap.size]? = some (.cells #[.int .i64 r.kind, .slice q r.parts.length c, .string r.bytes] 24 (0, 0))) := Lib.hid (heap_alloc_new W _)
  have HBW : Hid (Below W.heap.size W (W.alloc (.cells #[.int .i64 r.kind, .slice q r.parts.length c, .string r.bytes] 24))) := Lib.hid ((Below.refl _ _).alloc (Nat.le_refl _) _)
  have HSM := Lib.hid (fun w (h : Pts w q r.parts.length r.parts) => small_any r q c w hn h)
  have HMI := Lib.hid (fun (hn : r.parts.length ≤ 1000) w (h : Pts w q r.parts.length r.parts) => mine_any r q c w hn h)
  have HRM := Lib.hid (fun w (h : Pts w q r.parts.length r.parts) => rmay_rec r q c w hI hn hS HB.out h)
  have HRB := Lib.hid (fun (hm : mayM r = true) w (h : Pts w q r.parts.length r.parts) => rbytes_any r q c w hm HB.out h)
  have HKT := Lib.hid (fun w => kept_any r.kind w)
  rw [need_kept] at HKT
  have HENC : Hid ((encE r = 10 ↔ (decide (0 ≤ r.kind) && decide (r.kind ≤ 9)) = false) ∧ (mayM r = false → (encE r = 1 ↔ (decide (0 ≤ r.kind) && decide (r.kind ≤ 9)) = true))) := Lib.hid (by
    have hk := need_kept r.kind
    unfold encE
    rw [← hk]
    cases hkk : (needM r.kind).kept <;> cases hmm : mayM r <;> simp)
  have HES : Hid (mayM r = false → encS r = ⟨#[]⟩) := Lib.hid (fun h => by unfold encS; rw [h]; rfl)
  unfold Rc.val at HSM HMI HRM HRB ⊢
  obtain ⟨ka, hka⟩ : ∃ x, decide (0 ≤ r.kind) = x := ⟨_, rfl⟩
  obtain ⟨kb, hkb⟩ : ∃ x, decide (r.kind ≤ 9) = x := ⟨_, rfl⟩
  rw [hka, hkb] at HKT HENC
  go_enter Try.func3, Try.ntmps3
  go_wp2_with fail
  refine (HSM.out _ (HP.out.below HBW.out)).mono ?_
  rintro e w1 ⟨rfl, hb1⟩
  have HB1 := Lib.hid (HBW.out.trans (hb1.mono HBW.out.size))
  have HX1 := Lib.hid ((hb1.block _ (lt_of_block HX.out)).trans HX.out)
  clear hb1
  by_cases hs : smallM r = false
  · rw [hs]
    go_wp2_with fail
    refine (lives_any _).mono ?_
    rintro e w2 ⟨rfl, hb2⟩
    have HB2 := Lib.hid (HB1.out.trans (hb2.mono HB1.out.size))
    clear hb2
    go_wp2_with fail
    go_ret
    exact ⟨rfl, HB2.out⟩
  · have hs' : smallM r = true := by simpa using hs
    rw [hs']
    have hl3 : r.parts.length ≤ 1000 := by
      unfold smallM at hs'
      rw [Bool.and_eq_true, decide_eq_true_eq] at hs'
      omega
    have HP1 := Lib.hid (HP.out.below (HB1.out.mono (Nat.le_refl _)))
    have HCL : Hid (∀ u, Below w1.heap.size w1 u → u.cell? ⟨W.heap.size, 0, none⟩ = some (.int .i64 r.kind) ∧ u.cell? ⟨W.heap.size, 1, none⟩ = some (.slice q r.parts.length c) ∧ u.cell? ⟨W.heap.size, 2, none⟩ = some (.string r.bytes)) := Lib.hid (fun u hu => by
      have h := (hu.block _ (lt_of_block HX1.out)).trans HX1.out
      refine ⟨?_, ?_, ?_⟩ <;> (rw [cell_of_row _ _ _ _ _ _ h]; rfl))
    have x0 := fun s : In w1 => (HCL.out s.1 s.2).1
    have x1 := fun s : In w1 => (HCL.out s.1 s.2).2.1
    have x2 := fun s : In w1 => (HCL.out s.1 s.2).2.2
    have hne := In.some w1
    clear hs hs'
    go_upto_region 3 with fail
    go_cut [3, 4] (fun v u wx => v = .bool (mayM r) ∧ u = .bool (ka && kb) ∧ Hid (Below w1.heap.size w1 wx))
    case first =>
      cases ka with
      | false =>
        refine region_in w1 (by kernel_rfl) (by kernel_rfl) (Below.refl _ _) ?_
        repeat (go_big_quiet_step ((first
          | (go_at_call 8; exact Calls.quiet_in (HRM.out _ (HP1.out.in_ _))))))
        refine wpQuiet_nil ?_
        intro _ hw'
        obtain ⟨⟨wz, hbz⟩, hw''⟩ := hw'
        subst hw''
        go_wp2_with fail
        go_meet
        exact ⟨rfl, rfl, Lib.hid hbz⟩
      | true =>
        refine region_in w1 (by kernel_rfl) (by kernel_rfl) (Below.refl _ _) ?_
        repeat (go_big_quiet_step ((first
          | (go_at_call 8; exact Calls.quiet_in (HRM.out _ (HP1.out.in_ _))))))
        refine wpQuiet_nil ?_
        intro _ hw'
        obtain ⟨⟨wz, hbz⟩, hw''⟩ := hw'
        subst hw''
        go_wp2_with fail
        go_meet
        exact ⟨rfl, rfl, Lib.hid hbz⟩
    case rest =>
      obtain ⟨rfl, rfl, HBC⟩ := hcut
      clear x0 x1 x2 hka hkb
      have hbc := HBC.out
      clear hne
      obtain ⟨c0, c1, c2⟩ := HCL.out wc hbc
      have HPc := Lib.hid (HP1.out.below hbc)
      clear hbc
      go_wp2_with fail
      refine (HMI.out hl3 _ HPc.out).mono ?_
      rintro e w2 ⟨q2, c2', rfl, hp2, hb2⟩
      have HB2 := Lib.hid (HBC.out.trans (hb2.mono HBC.out.size))
      have HEN := Lib.hid (encode_any r q2 c2' w2 hn hS HB.out hp2)
      unfold Rc.val at HEN ⊢
      clear hp2 hb2 c0 c1 c2
      go_wp2_with fail
      refine HEN.out.mono ?_
      rintro e w3 ⟨rfl, hb3⟩
      have HB3 := Lib.hid (HB2.out.trans (hb3.mono HB2.out.size))
      obtain ⟨c0, c1, c2⟩ := HCL.out w3 HB3.out
      clear hb3
      go_wp2_with fail
      refine (HMI.out hl3 _ (HP1.out.below HB3.out)).mono ?_
      rintro e w4 ⟨q4, c4, rfl, hp4, hb4⟩
      have HB4 := Lib.hid (HB3.out.trans (hb4.mono HB3.out.size))
      have HMY := Lib.hid (may_rec r q4 c4 w4 hn hS hp4)
      unfold Rc.val at HMY ⊢
      clear hp4 hb4 c0 c1 c2
      go_wp2_with fail
      refine HMY.out.mono ?_
      rintro e w5 ⟨rfl, hb5⟩
      have HB5 := Lib.hid (HB4.out.trans (hb5.mono HB4.out.size))
      obtain ⟨c0, c1, c2⟩ := HCL.out w5 HB5.out
      clear hb5 HEN HMY
      obtain ⟨mb, hmb⟩ : ∃ x, Hid (mayM r = x) := ⟨_, Lib.hid rfl⟩
      rw [hmb.out]
      have hmx : (mb != mb) = false := by simp
      go_wp2_with fail
      refine (HKT.out _).mono ?_
      rintro e w6 ⟨rfl, hb6⟩
      have HB6 := Lib.hid (HB5.out.trans (hb6.mono HB5.out.size))
      clear hb6 c0 c1 c2 hmx
      have hkx : ((ka && kb) != (ka && kb)) = false := by simp
      obtain ⟨kp, hkp⟩ : ∃ x, Hid ((ka && kb) = x) := ⟨_, Lib.hid rfl⟩
      rw [hkp.out] at hkx HENC ⊢
      have HB6W := Lib.hid (HB1.out.trans (HB6.out.mono HB1.out.size))
      cases mb with
      | false =>
        have HS0 := Lib.hid (HES.out hmb.out)
        have HE1 := Lib.hid HENC.out.1
        have HE2 := Lib.hid (HENC.out.2 hmb.out)
        rw [HS0.out]
        generalize encE r = E at *
        have g1 : (E == 10) = !kp := by
          cases kp with
          | false => rw [HE1.out.2 rfl]; rfl
          | true => rw [beq_eq_false_iff_ne.2 (fun h => by have := HE1.out.1 h; cases this)]; rfl
        have g2 : (E == 1) = kp := by
          cases kp with
          | false => rw [beq_eq_false_iff_ne.2 (fun h => by have := HE2.out.1 h; cases this)]
          | true => rw [HE2.out.2 rfl]; rfl
        have g3 : (!kp == !kp) = true := by simp
        have g4 : (kp == kp) = true := by simp
        go_wp2_with fail
        refine (lives_any _).mono ?_
        rintro e w7 ⟨rfl, hb7⟩
        have HB7 := Lib.hid (HB6W.out.trans (hb7.mono HB6W.out.size))
        clear hb7
        go_wp2_with fail
        go_ret
        exact ⟨rfl, HB7.out⟩
      | true =>
        have hm := hmb.out
        have HRBm := Lib.hid (HRB.out hm)
        have hE0 := encE_may hm
        rw [hE0, show encS r = strB (rcB r) by unfold encS; rw [hm]; rfl]
        have HLE := Lib.hid (rcB_len hm HB.out)
        have HD1 := Lib.hid (fun w => decode_any r (strB (rcB r)) [] false w hm HB.out (by rw [strB_size]; have := HLE.out; omega) (by simp) (by rw [nums_strB (rcB_dig r)]; exact Fd.whole (by rw [List.append_nil])))
        clear hE0 hm hmb
        generalize strB (rcB r) = B at *
        go_wp2_with fail
        refine (HD1.out _).mono ?_
        rintro e w7 ⟨k7, q7, n7, c7, s7, E7, rfl, hb7, _, _, h7⟩
        obtain ⟨rfl, rfl, rfl, rfl, hp7⟩ := h7 rfl rfl
        have HB7 := Lib.hid (HB6.out.trans (hb7.mono HB6.out.size))
        have HP7 := Lib.hid hp7
        clear hb7 h7 hp7
        go_upto_region 10 with fail
        have HV7 := Lib.hid (show Below w7.heap.size w7 (w7.alloc (.cells #[.int .i64 r.kind, .slice q7 r.parts.length c7, .string r.bytes] 33)) from (Below.refl _ _).alloc (Nat.le_refl _) _)
        have HX7 := Lib.hid (heap_alloc_new w7 (.cells #[.int .i64 r.kind, .slice q7 r.parts.length c7, .string r.bytes] 33))
        generalize w7.alloc (.cells #[.int .i64 r.kind, .slice q7 r.parts.length c7, .string r.bytes] 33) = V at *
        have HBV := Lib.hid (HB7.out.trans (HV7.out.mono HB7.out.size))
        have HCV : Hid (∀ u, Below V.heap.size V u → u.cell? ⟨W.heap.size, 0, none⟩ = some (.int .i64 r.kind) ∧ u.cell? ⟨W.heap.size, 1, none⟩ = some (.slice q r.parts.length c) ∧ u.cell? ⟨W.heap.size, 2, none⟩ = some (.string r.bytes) ∧ u.cell? ⟨w7.heap.size, 0, none⟩ = some (.int .i64 r.kind) ∧ u.cell? ⟨w7.heap.size, 1, none⟩ = some (.slice q7 r.parts.length c7) ∧ u.cell? ⟨w7.heap.size, 2, none⟩ = some (.string r.bytes)) := Lib.hid (fun u hu => by
          obtain ⟨a0, a1, a2⟩ := HCL.out u (HBV.out.trans (hu.mono HBV.out.size))
          have h := (hu.block _ (lt_of_block HX7.out)).trans HX7.out
          refine ⟨a0, a1, a2, ?_, ?_, ?_⟩ <;> (rw [cell_of_row _ _ _ _ _ _ h]; rfl))
        have HPV := Lib.hid (HP1.out.below HBV.out)
        have HP7V := Lib.hid (HP7.out.below HV7.out)
        obtain ⟨e0, e1, e2, e3, e4, e5⟩ := HCV.out V (Below.refl _ _)
        have hTH := Lib.hid (fun u (h : Pts u q7 r.parts.length r.parts) => theirs_any r q7 c7 u hl3 h)
        have hSA := Lib.hid (fun u q8 c8 (h1 : Pts u q8 r.parts.length r.parts) (h2 : Pts u q r.parts.length r.parts) => rsame_any r r q8 q c8 c u hn h1 h2)
        rw [same_self] at hSA
        unfold Rc.val at hTH hSA
        have heq : (B.toList == B.toList) = true := by simp
        have hLV := Lib.hid lives_any
        go_region_held3 (fun u => u.cell? ⟨W.heap.size, 0, none⟩ = some (.int .i64 r.kind) ∧ u.cell? ⟨W.heap.size, 1, none⟩ = some (.slice q r.parts.length c) ∧ u.cell? ⟨W.heap.size, 2, none⟩ = some (.string r.bytes) ∧ u.cell? ⟨w7.heap.size, 0, none⟩ = some (.int .i64 r.kind) ∧ u.cell? ⟨w7.heap.size, 1, none⟩ = some (.slice q7 r.parts.length c7) ∧ u.cell? ⟨w7.heap.size, 2, none⟩ = some (.string r.bytes)) ((first
            | with_reducible exact ⟨z0, z1, z2, z3, z4, z5⟩
            | go_keep)) (first
          | (go_at_call 14
             refine (HRBm.out _ (HPV.out.below (by first | exact (Below.refl _ _).drew | exact Below.refl _ _))).mono ?_
             rintro e w8 ⟨rfl, hb⟩
             have hb8 : Below V.heap.size V w8 := (Below.refl _ _).drew.trans hb
             obtain ⟨z0, z1, z2, z3, z4, z5⟩ := HCV.out w8 hb8)
          | (go_at_call 16
             refine (hTH.out _ (HP7V.out.below hb8)).mono ?_
             rintro e w9 ⟨q9, c9, rfl, hp9, hbb⟩
             have hb9 : Below V.heap.size V w9 := hb8.trans (hbb.mono hb8.size)
             obtain ⟨z0, z1, z2, z3, z4, z5⟩ := HCV.out w9 hb9)
          | (go_at_call 15
             refine (hSA.out _ q9 c9 hp9 (HPV.out.below hb9)).mono ?_
             rintro e w10 ⟨rfl, hbb⟩
             have hb10 : Below V.heap.size V w10 := hb9.trans (hbb.mono hb9.size)
             obtain ⟨z0, z1, z2, z3, z4, z5⟩ := HCV.out w10 hb10)
          | (go_at_call 7
             refine (hLV.out _).mono ?_
             rintro e w11 ⟨rfl, hbb⟩
             have hb11 : Below V.heap.size V w11 := hb10.trans (hbb.mono hb10.size)
             obtain ⟨z0, z1, z2, z3, z4, z5⟩ := HCV.out w11 hb11))
        all_goals
          have HBE := Lib.hid (HB1.out.trans (HBV.out.mono HB1.out.size))
          have HBF := Lib.hid (HBE.out.trans (hb11.mono HBE.out.size))
          go_wp2_with fail
          go_ret
          exact ⟨rfl, HBF.out⟩
end Go.Proofs.Ytpdihgmgcamgkaa
