/- The statement on what comes back, walked. -/
import Derived.Test.YtjpbbooeihdnfaaDoorLW2
import Derived.Test.YtjpbbooeihdnfaaDoorLU5
import Derived.Test.YtjpbbooeihdnfaaDoorLX1
set_option maxRecDepth 20000
set_option linter.unusedSimpArgs false
set_option linter.unusedVariables false
namespace Go.Proofs.YtjpbbooeihdnfaaDoor
open Go.RowKit

set_option maxHeartbeats 6400000 in
theorem back_walk (S : ByteArray) (w : World) (hE : Env w) (hP : Pow w) (hS : S.size ≤ 9223372036854775807) :
    Calls Tryd.prog 3 #[.string S] w fun e w' => e = .returned (.bool true) ∧ Below w.heap.size w w' := by
  have HEW := Lib.hid hE
  have HPW := Lib.hid hP
  have HLV : Hid (∀ w1, Below w.heap.size w w1 → Calls Tryd.prog 5 #[] w1 fun e w' => e = .returned (.bool true) ∧ Below w.heap.size w w') := Lib.hid fun w1 hb => (lives_any w1 (HEW.out.below hb)).mono fun e w' ⟨h1, h2⟩ => ⟨h1, hb.trans (h2.mono hb.size)⟩
  by_cases h2 : 2000 < S.size
  · have hd : decide ((2000 : Int) < (S.size : Int)) = true := decide_eq_true (by omega)
    clear hE hP
    go_enter Tryd.func3, Tryd.ntmps3
    go_wp2_with (go_at_call 5; refine (HLV.out _ (Below.refl _ _)).mono ?_; rintro e w9 ⟨rfl, hb9⟩; have HB9 := Lib.hid hb9; clear hb9)
    go_ret
    exact ⟨rfl, HB9.out⟩
  · have hd : decide ((2000 : Int) < (S.size : Int)) = false := decide_eq_false (by omega)
    have hd2 : decide (2000 < S.size) = false := decide_eq_false h2
    have hsc := scan_any S w hE hS
    have hll := tl_len S
    obtain ⟨⟨r, n, x⟩, hr⟩ : ∃ r, scanT (tl S) = r := ⟨_, rfl⟩
    rw [hr] at hsc
    cases r with
    | none =>
      have hx := scanT_err hr
      have hx1 : (x != 0) = true := bne_iff_ne.2 hx
      have HSC : Hid (Calls Tryd.prog 6 #[.string S] w fun e w' => e = .returned (.tuple #[.slice none 0 0, .int .i64 (n : Int), .int .i64 x]) ∧ Below w.heap.size w w') := Lib.hid (hsc.mono fun e w' h => ⟨h.2, h.1⟩)
      clear hsc hx hr hll h2 hE hP
      go_enter Tryd.func3, Tryd.ntmps3
      go_wp2_with (first
        | (go_at_call 6; refine HSC.out.mono ?_; rintro e w2 ⟨rfl, hb2⟩; have HB2 := Lib.hid hb2; clear hb2)
        | (go_at_call 5; refine (HLV.out _ HB2.out).mono ?_; rintro e w9 ⟨rfl, hb9⟩; have HB9 := Lib.hid hb9; clear hb9))
      go_ret
      exact ⟨rfl, HB9.out⟩
    | some l =>
      have hall := scanT_all hr
      have hlen := scanT_len hr
      have HBK := Lib.hid (scanT_back hr)
      have HSC := Lib.hid (scan_row hE hS hr)
      have HALL := Lib.hid hall
      have HLE := Lib.hid hlen
      obtain ⟨T, hT⟩ : ∃ T : ByteArray, T = ⟨(joinM (l.map (·.1))).toArray⟩ := ⟨_, rfl⟩
      have hTl : tl T = joinM (l.map (·.1)) := by rw [hT]
      have hTs : T.size = (joinM (l.map (·.1))).length := by rw [hT]; show (joinM (l.map (·.1))).toArray.size = _; rw [List.size_toArray]
      have HJ : Hid (∀ w2 qa cap, Below w.heap.size w w2 → (l ≠ [] → ∃ g, qa = some ⟨g, 0, none⟩ ∧ TkR w2 (.slice qa l.length cap) l g cap) → Calls Tryd.prog 7 #[.slice qa l.length cap] w2 fun e w' => e = .returned (.string T) ∧ Below w2.heap.size w2 w') := Lib.hid fun w2 qa cap hb hR => by
        have h := join_any l qa cap w2 (HEW.out.below hb) (pow_below HPW.out hb) hR hall (by omega)
        rw [← hT] at h
        exact h
      obtain ⟨N, hN⟩ : ∃ N, l.length = N := ⟨_, rfl⟩
      have HN := Lib.hid hN
      rw [hN] at HSC HJ hlen
      have hNI : (N : Int) ≤ 4096 := by omega
      clear hsc hr hall h2 hE hP hN hll hT hlen
      by_cases h4 : 4096 < T.size
      · have g4 : decide ((4096 : Int) < (T.size : Int)) = true := decide_eq_true (by omega)
        have g4n : decide (4096 < T.size) = true := decide_eq_true h4
        clear hTl hTs h4
        go_enter Tryd.func3, Tryd.ntmps3
        go_wp2_with (first
          | (go_at_call 6; refine HSC.out.mono ?_; rintro e w2 ⟨qa, cap, rfl, HT2⟩)
          | (go_at_call 7; refine (HJ.out _ _ _ HT2.out.1 HT2.out.2).mono ?_; rintro e w3 ⟨rfl, hb3⟩; have HB3 : Hid (Below w.heap.size w w3) := Lib.hid (HT2.out.1.trans (hb3.mono HT2.out.1.size)); clear hb3)
          | (go_at_call 5; refine (HLV.out _ HB3.out).mono ?_; rintro e w9 ⟨rfl, hb9⟩; have HB9 := Lib.hid hb9; clear hb9))
        go_ret
        exact ⟨rfl, HB9.out⟩
      · have g4 : decide ((4096 : Int) < (T.size : Int)) = false := decide_eq_false (by omega)
        have g4n : decide (4096 < T.size) = false := decide_eq_false h4
        obtain ⟨l', hr', hm⟩ := HBK.out (by omega)
        rw [← hTl] at hr'
        have hall' := scanT_all hr'
        have hlen' := scanT_len hr'
        have hNl : l'.length = N := by
          have := congrArg List.length hm
          rw [List.length_map, List.length_map, HN.out] at this
          exact this
        have HSC2 : Hid (∀ w3, Below w.heap.size w w3 → Calls Tryd.prog 6 #[.string T] w3 fun e w' => ∃ qb cap2 z, e = .returned (.tuple #[.slice qb N cap2, .int .i64 z, .int .i64 0]) ∧ Hid (Below w3.heap.size w3 w' ∧ (l' ≠ [] → ∃ g, qb = some ⟨g, 0, none⟩ ∧ TkR w' (.slice qb N cap2) l' g cap2))) := Lib.hid fun w3 hb => by
          have h := scan_row (HEW.out.below hb) (by omega) hr'
          rw [hNl] at h
          exact h.mono fun e w' ⟨qb, cap2, h1, h2⟩ => ⟨qb, cap2, _, h1, h2⟩
        have HJ2 : Hid (∀ w4 qb cap2, Below w.heap.size w w4 → (l' ≠ [] → ∃ g, qb = some ⟨g, 0, none⟩ ∧ TkR w4 (.slice qb N cap2) l' g cap2) → Calls Tryd.prog 7 #[.slice qb N cap2] w4 fun e w' => e = .returned (.string T) ∧ Below w4.heap.size w4 w') := Lib.hid fun w4 qb cap2 hb hR => by
          rw [← hNl] at hR ⊢
          have h := join_any l' qb cap2 w4 (HEW.out.below hb) (pow_below HPW.out hb) hR hall' (by omega)
          rw [hm, ← hTl] at h
          exact h
        have HNL := Lib.hid hNl
        have HGE : Hid (∀ i, i < N → (l'.getD i zTA).1 = (l.getD i zTA).1) := Lib.hid fun i hi => by
          have h := congrArg (fun q => q[i]?) hm
          simp only [List.getElem?_map] at h
          rw [List.getElem?_eq_getElem (by rw [hNl]; exact hi), List.getElem?_eq_getElem (by rw [HN.out]; exact hi)] at h
          rw [List.getD_eq_getElem?_getD, List.getD_eq_getElem?_getD, List.getElem?_eq_getElem (by rw [hNl]; exact hi), List.getElem?_eq_getElem (by rw [HN.out]; exact hi)]
          exact Option.some.inj h
        clear hTl hTs h4 hr' hall' hlen' hm hNl
        go_enter Tryd.func3, Tryd.ntmps3
        go_wp2_with (first
          | (go_at_call 6; refine (HSC2.out _ HB3.out).mono ?_; rintro e w4 ⟨qb, cap2, z, rfl, HT4⟩; have HB4 : Hid (Below w.heap.size w w4) := Lib.hid (HB3.out.trans (HT4.out.1.mono HB3.out.size)))
          | (go_at_call 6; refine HSC.out.mono ?_; rintro e w2 ⟨qa, cap, rfl, HT2⟩)
          | (go_at_call 7; refine (HJ2.out _ _ _ HB4.out HT4.out.2).mono ?_; rintro e w5 ⟨rfl, hb5⟩; have HB5 := Lib.hid hb5; clear hb5)
          | (go_at_call 7; refine (HJ.out _ _ _ HT2.out.1 HT2.out.2).mono ?_; rintro e w3 ⟨rfl, hb3⟩; have HB23 := Lib.hid hb3; have HB3 : Hid (Below w.heap.size w w3) := Lib.hid (HT2.out.1.trans (hb3.mono HT2.out.1.size)); clear hb3))
        have HBF : Hid (Below w.heap.size w w5) := Lib.hid (HB4.out.trans (HB5.out.mono HB4.out.size))
        have HTL : Hid (l ≠ [] → ∃ g, qa = some ⟨g, 0, none⟩ ∧ TkR w5 (.slice qa N cap) l g cap) := Lib.hid fun hne => by
          obtain ⟨g, h1, h2⟩ := HT2.out.2 hne
          exact ⟨g, h1, ((h2.below HB23.out).below HT4.out.1).below HB5.out⟩
        have HTM : Hid (l' ≠ [] → ∃ g, qb = some ⟨g, 0, none⟩ ∧ TkR w5 (.slice qb N cap2) l' g cap2) := Lib.hid fun hne => by
          obtain ⟨g, h1, h2⟩ := HT4.out.2 hne
          exact ⟨g, h1, h2.below HB5.out⟩
        clear HT2 HT4 HB23 HB3 HB4 HB5
        go_loopw [10] (fun iv wr => ∃ i : Nat, iv = .int .i64 (i : Int) ∧ i ≤ N ∧ Hid (Below w5.heap.size w5 wr)) (fun iv _ => N - (intOf iv).toNat)
        case atStart => exact ⟨0, rfl, Nat.zero_le _, Lib.hid (Below.refl _ _)⟩
        case round =>
          obtain ⟨i, rfl, hi, HBX⟩ := hrel
          by_cases hlt : i < N
          · obtain ⟨g, hqa, hA0⟩ := HTL.out (fun e => by have := HN.out; rw [e] at this; simp at this; omega)
            obtain ⟨g2, hqb, hB0⟩ := HTM.out (fun e => by have := HNL.out; rw [e] at this; simp at this; omega)
            have hA := hA0.below HBX.out
            have hB := hB0.below HBX.out
            clear hA0 hB0
            subst hqa
            subst hqb
            have c0 := hA.k i (by rw [HN.out]; exact hlt)
            have c1 := hA.n i (by rw [HN.out]; exact hlt)
            have c2 := hA.s i (by rw [HN.out]; exact hlt)
            have d0 := hB.k i (by rw [HNL.out]; exact hlt)
            have d1 := hB.n i (by rw [HNL.out]; exact hlt)
            have d2 := hB.s i (by rw [HNL.out]; exact hlt)
            rw [HGE.out i hlt] at d0 d1 d2
            clear hA hB
            obtain ⟨T0, hT0⟩ : ∃ T, ((l.getD i zTA).1.k : Int) = T := ⟨_, rfl⟩
            obtain ⟨T1, hT1⟩ : ∃ T, (l.getD i zTA).1.n = T := ⟨_, rfl⟩
            obtain ⟨T2, hT2⟩ : ∃ T, (⟨(l.getD i zTA).1.s.toArray⟩ : ByteArray) = T := ⟨_, rfl⟩
            rw [hT0] at c0 d0
            rw [hT1] at c1 d1
            rw [hT2] at c2 d2
            have hltI : (i : Int) < (N : Int) := by omega
            have q0 : (T0 != T0) = false := bne_self_eq_false _
            have q1 : (T1 != T1) = false := bne_self_eq_false _
            clear hT0 hT1 hT2
            go_wp2_with fail
            go_quiet (fail)
            have HB7 : Hid (Below wr.heap.size wr (wr.drewN nq)) := Lib.hid (below_drewN (Below.refl _ _) nq)
            generalize wr.drewN nq = w7 at *
            go_wp2_with fail
            go_roundw
            case rel => exact ⟨i + 1, by go_num, by omega, Lib.hid (HBX.out.trans (HB7.out.mono HBX.out.size))⟩
            case measure => simp [intOf]; omega
          · have hie : i = N := by omega
            clear hlt
            subst hie
            have HB9 : Hid (Below w.heap.size w wr) := Lib.hid (HBF.out.trans (HBX.out.mono HBF.out.size))
            go_wp2_with (go_at_call 5; refine (HLV.out _ HB9.out).mono ?_; rintro e w9 ⟨rfl, hb9⟩; have HB8 := Lib.hid hb9; clear hb9)
            go_ret
            exact ⟨rfl, HB8.out⟩
end Go.Proofs.YtjpbbooeihdnfaaDoor
