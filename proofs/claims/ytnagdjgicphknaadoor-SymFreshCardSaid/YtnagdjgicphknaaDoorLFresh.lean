/- The law of fresh names: the walk. -/
import Derived.Test.YtnagdjgicphknaaDoorLNames
set_option linter.unusedSimpArgs false
set_option maxRecDepth 20000
namespace Go.Proofs.YtnagdjgicphknaaDoor
open Go.RowKit

theorem byteAt_fr {L : List ByteArray} (S : ByteArray) (hL : L.length ≤ 98) {n : Nat} (hn : n < S.size) (h29 : n < 29) : n < (fr L S).size ∧ byteAt (fr L S) n = byteAt S n := by
  have h1 := (frN_spec S hL).le
  have hlt : frN L S < 100 := by omega
  have ht := tailM_len (frN L S)
  have hnu := nums_cand (S := S) hlt
  have hn2 : n < ((nums S).take (32 - (tailM (frN L S)).length)).length := by rw [List.length_take, nums_len]; omega
  constructor
  · unfold fr
    rw [← nums_len, hnu]
    unfold candL
    rw [List.length_append]; omega
  · unfold fr byteAt
    rw [hnu]
    unfold candL
    rw [List.getD_eq_getElem?_getD, List.getD_eq_getElem?_getD, List.getElem?_append_left hn2, List.getElem?_take_of_lt (by omega)]
/-- What two fresh names tell. -/
structure FrT (M : List ByteArray) (S s u : ByteArray) : Prop where
  s0 : nameM (frM (frM M S) S) (M.length : Int) = s
  u0 : nameM (frM (frM M S) S) ((frM M S).length : Int) = u
  su : (s.toList == u.toList) = false
  os : okB s = true
  ou : okB u = true
  as_ : atI M s = -1
  au : atI M u = -1
  pre : ∀ n, n < S.size → n < 29 → n < s.size ∧ byteAt s n = byteAt S n
theorem FrT.of {M : List ByteArray} {S : ByteArray} (hM : M.length ≤ 90) (hS : okB S = true) : FrT M S (fr M S) (fr (frM M S) S) := by
  have e1 : frM M S = M ++ [fr M S] := by unfold frM; rw [if_pos hS]
  have hl : (frM M S).length = M.length + 1 := by rw [e1]; simp
  have e2 : frM (frM M S) S = frM M S ++ [fr (frM M S) S] := by show (if okB S = true then _ else _) = _; rw [if_pos hS]
  have n1 := fr_not (L := M) S (by omega)
  have n2 := fr_not (L := frM M S) S (by omega)
  refine ⟨?_, ?_, ?_, fr_ok hS (by omega), fr_ok hS (by omega), ?_, ?_, fun n h1 h2 => byteAt_fr S (by omega) h1 h2⟩
  · apply nameM_get
    rw [e2, List.getElem?_append_left (by omega), e1, List.getElem?_append_right (Nat.le_refl _), Nat.sub_self]; rfl
  · apply nameM_get
    rw [e2, List.getElem?_append_right (Nat.le_refl _), Nat.sub_self]; rfl
  · rw [beq_toList]
    apply decide_eq_false
    intro e
    apply n2
    rw [← e, e1]; simp
  · unfold atI; rw [if_neg n1]
  · unfold atI; rw [if_neg (fun h => n2 ((show ∀ x ∈ M, x ∈ frM M S from fun x hx => by rw [e1]; simp [hx]) _ h))]
set_option maxHeartbeats 3200000 in
theorem fresh_walk (a : Option Addr) (n c : Nat) (f : Nat → Opv) (A : ByteArray) (W : World) (hn : n ≤ 9223372036854775807) (hO : Ops W a n f) (_hA : A.size ≤ maxLen) :
    Calls Tryd.prog 5 #[.slice a n c, .string A] W fun e W' => e = .returned (.bool true) ∧ Below W.heap.size W W' := by
  have HY := Lib.hid (fun hL => light_yes c hO (f := f) (n := n) hL)
  have HN := Lib.hid (fun hL => light_no c hO (f := f) (n := n) hL)
  have HLV := Lib.hid lives_any
  have HNew := Lib.hid (new_any W)
  have HM1 := Lib.hid may_any
  have HO := Lib.hid hO
  clear hO
  obtain ⟨za, hza⟩ : ∃ z, Hid (A.size = z) := ⟨_, Lib.hid rfl⟩
  have hza1 := hza.out
  by_cases hL : Lite f n
  · by_cases h1 : 200 < za
    · have hd : decide ((200 : Int) < (za : Int)) = true := by simp; omega
      go_enter Tryd.func5, Tryd.ntmps5
      go_wp2_with (first
        | (go_at_call 7; refine (HY.out hL).mono ?_; rintro e w1 ⟨rfl, rfl⟩)
        | (go_at_call 8; refine (HLV.out _).mono ?_; rintro e w1 ⟨rfl, hb1⟩))
      go_ret
      exact ⟨rfl, hb1⟩
    · have hd : decide ((200 : Int) < (za : Int)) = false := by simp; omega
      have HL := Lib.hid hL
      have hn60 := hL.le
      go_enter Tryd.func5, Tryd.ntmps5
      go_wp2_with (first
        | (go_at_call 7; refine (HY.out hL).mono ?_; rintro e w1 ⟨rfl, rfl⟩)
        | (go_at_call 9; refine HNew.out.mono ?_; rintro e w1 ⟨g, F, rfl, hT, hF, hb1⟩))
      have H0 : Hid (Md W w1 g (.slice none 0 0) (runM [] f 0)) := Lib.hid (Md.start hT hF hb1)
      clear hT hF hb1
      go_loopw [6, 7] (fun xv iv wr => ∃ i : Nat, i ≤ n ∧ iv = .int .i64 (i : Int) ∧ Hid (Md W wr g xv (runM [] f i))) (fun _ iv _ => n - (intOf iv).toNat)
      case atStart => exact ⟨0, by omega, by go_num, H0⟩
      case round =>
        obtain ⟨i, hi, rfl, HI⟩ := hrel
        have hlen : (runM [] f i).length ≤ 98 := by have := runM_len [] f i; simp at this; omega
        by_cases hlt : i < n
        · have hiN : (i : Int) < (n : Int) := by omega
          obtain ⟨b, o, rfl, hc⟩ := (HO.out.below HI.out.below) (by omega)
          obtain ⟨x0, x1⟩ := hc i hlt
          have HS : Hid (Calls Tryd.prog 10 #[.pointer (some ⟨g, 0, none⟩), u6, .agg #[.int .i64 (f i).kind, .string (f i).name]] wr fun e w' => ∃ y, e = .returned (.tuple #[y, .bool true]) ∧ Md W w' g y (opM (runM [] f i) (f i))) := Lib.hid (HI.out.step hlen (f i) (HL.out.sz i hlt))
          go_wp2_with (go_at_call 10; refine HS.out.mono ?_; rintro e w2 ⟨y, rfl, hI2⟩)
          go_roundw
          case rel => exact ⟨i + 1, by omega, by go_num, Lib.hid (show Md W _ g y (runM [] f (i + 1)) from hI2)⟩
          case measure => simp [intOf]; omega
        · obtain rfl : i = n := by omega
          have hl2 := runM_len [] f i
          simp at hl2
          have HX := Lib.hid HI.out.mx
          obtain ⟨M, hM⟩ : ∃ M, Hid (runM [] f i = M) := ⟨_, Lib.hid rfl⟩
          rw [hM.out] at HX hl2
          have hl3 : (frM M A).length ≤ 98 := by have := frM_len M A; omega
          have hl4 : M.length ≤ 60 := by omega
          have HQ := Lib.hid (HX.out.fresh (by omega) A)
          clear hi HY HN HNew H0 HI hl2 hL h1
          go_upto_region 10 with (go_at_call 17; refine HQ.out.mono ?_; rintro e w2 ⟨rfl, hX2⟩; have HX2 := Lib.hid hX2; have HQ2 := Lib.hid (hX2.fresh hl3 A); clear hX2)
          go_upto_region 11 with (go_at_call 17; refine HQ2.out.mono ?_; rintro e w3 ⟨rfl, hX3⟩; have HX3 := Lib.hid hX3; clear hX3)
          clear HQ HQ2
          have HB3 := Lib.hid HX3.out.below
          cases hA : okB A with
          | false =>
            rw [errA_no hA, show frA M A = 0 by unfold frA; rw [if_neg (by simp [hA])]]
            go_wp2_with (first
              | (go_at_call 11; refine (HM1.out _ _).mono ?_; rintro e w4 ⟨rfl, rfl⟩)
              | (go_at_call 8; refine (HLV.out _).mono ?_; rintro e w4 ⟨rfl, hb4⟩))
            go_ret
            exact ⟨rfl, HB3.out.trans (hb4.mono HB3.out.size)⟩
          | true =>
            have hT := FrT.of (by omega : M.length ≤ 90) hA
            rw [errA_yes hA, show frA M A = (M.length : Int) by unfold frA; rw [if_pos hA], show frA (frM M A) A = ((frM M A).length : Int) by unfold frA; rw [if_pos hA]]
            have hlk : (frM M A).length = M.length + 1 := by unfold frM; rw [if_pos hA]; simp
            have HNM := Lib.hid (HX3.out.name)
            have HAT := Lib.hid (HX3.out.at_ (by omega))
            generalize fr M A = s at *
            generalize fr (frM M A) A = u at *
            have hs0 := hT.s0
            have hu0 := hT.u0
            generalize frM (frM M A) A = M3 at *
            obtain ⟨m, hm⟩ : ∃ m, Hid (M.length = m) := ⟨_, Lib.hid rfl⟩
            obtain ⟨k, hk⟩ : ∃ k, Hid ((frM M A).length = k) := ⟨_, Lib.hid rfl⟩
            rw [hm.out] at hs0 hlk ⊢
            rw [hk.out] at hu0 hlk ⊢
            have hik : ((m : Int) == (k : Int)) = false := by rw [beq_eq_false_iff_ne]; omega
            have hsu := hT.su
            have hos := hT.os
            have hou := hT.ou
            have has : decide ((0 : Int) ≤ atI M s) = false := by rw [hT.as_]; rfl
            have hau : decide ((0 : Int) ≤ atI M u) = false := by rw [hT.au]; rfl
            have HPRE := Lib.hid hT.pre
            clear hT hlk hl3 hl4
            go_upto_region 14 with (first
              | (go_at_call 11; refine (HM1.out _ _).mono ?_; rintro e w4 ⟨rfl, rfl⟩)
              | (go_at_call 16; refine (HNM.out _).mono ?_; rintro e w4 ⟨rfl, rfl⟩))
            clear hs0 hu0
            go_wp2_with (first
              | (go_at_call 11; refine (HM1.out _ _).mono ?_; rintro e w4 ⟨rfl, rfl⟩)
              | (go_at_call 18; refine (HAT.out _).mono ?_; rintro e w4 ⟨rfl, rfl⟩))
            have HIS : Hid (∀ j, j < s.size → ∀ w, (Instr.index 9 (.string s) (.int .i64 (j : Int))).run Tryd.prog w = .ok (.int .u8 (byteAt s j : Int)) w) := Lib.hid (fun j hj w => index_any s j hj w)
            have HIA : Hid (∀ j, j < A.size → ∀ w, (Instr.index 9 (.string A) (.int .i64 (j : Int))).run Tryd.prog w = .ok (.int .u8 (byteAt A j : Int)) w) := Lib.hid (fun j hj w => index_any A j hj w)
            obtain ⟨zs, hzs⟩ : ∃ z, Hid (s.size = z) := ⟨_, Lib.hid rfl⟩
            have hzs1 := hzs.out
            have hzs32 : zs ≤ 32 := by have := ((okB_iff s).1 hos).2.1; omega
            rw [hzs1] at HIS HPRE
            rw [hza1] at HIA HPRE
            obtain ⟨q, hq⟩ : ∃ q : Nat, Hid (q = min za 20) := ⟨_, Lib.hid rfl⟩
            go_loopw [14] (fun iv wr' => ∃ j : Nat, j ≤ zs ∧ iv = .int .i64 (j : Int) ∧ Hid (Below W.heap.size W wr')) (fun iv _ => zs - (intOf iv).toNat)
            case atStart => exact ⟨0, by omega, by go_num, HB3⟩
            case round =>
              obtain ⟨j, hj, rfl, HBJ⟩ := hrel
              by_cases h1 : j < zs
              · have hd1 : decide ((j : Int) < (zs : Int)) = true := by simp; omega
                have hx1 := HIS.out j h1
                by_cases h2 : j < za
                · have hd2 : decide ((j : Int) < (za : Int)) = true := by simp; omega
                  have hx2 := HIA.out j h2
                  by_cases h3 : byteAt s j = byteAt A j
                  · have hd3 : ((byteAt s j : Int) == (byteAt A j : Int)) = true := by rw [h3]; simp
                    clear h3
                    go_wp2_with fail
                    go_quiet (fail)
                    go_wp2_with fail
                    go_roundw
                    case rel => exact ⟨j + 1, by omega, by go_num, Lib.hid (below_drewN HBJ.out _)⟩
                    case measure => simp [intOf]; omega
                  · have hd3 : ((byteAt s j : Int) == (byteAt A j : Int)) = false := by rw [beq_eq_false_iff_ne]; omega
                    have hge : q ≤ j := by
                      have : ¬ j < 29 := fun h => h3 (HPRE.out j h2 h).2
                      have := hq.out
                      omega
                    go_wp2_with fail
                    go_quiet (fail)
                    by_cases hz : (20 : Int) < (za : Int)
                    · have hge2 : decide ((20 : Int) ≤ (j : Int)) = true := by have := hq.out; simp; omega
                      go_wp2_with (go_at_call 8; refine (HLV.out _).mono ?_; rintro e w4 ⟨rfl, hb4⟩)
                      go_ret
                      exact ⟨rfl, (below_drewN HBJ.out _).trans (hb4.mono HBJ.out.size)⟩
                    · exfalso; have := hq.out; omega
                · have hd2 : decide ((j : Int) < (za : Int)) = false := by simp; omega
                  have hge : q ≤ j := by
                    have := hq.out
                    omega
                  go_wp2_with fail
                  go_quiet (fail)
                  by_cases hz : (20 : Int) < (za : Int)
                  · have hge2 : decide ((20 : Int) ≤ (j : Int)) = true := by have := hq.out; simp; omega
                    go_wp2_with (go_at_call 8; refine (HLV.out _).mono ?_; rintro e w4 ⟨rfl, hb4⟩)
                    go_ret
                    exact ⟨rfl, (below_drewN HBJ.out _).trans (hb4.mono HBJ.out.size)⟩
                  · have hge2 : decide ((za : Int) ≤ (j : Int)) = true := by have := hq.out; simp; omega
                    go_wp2_with (go_at_call 8; refine (HLV.out _).mono ?_; rintro e w4 ⟨rfl, hb4⟩)
                    go_ret
                    exact ⟨rfl, (below_drewN HBJ.out _).trans (hb4.mono HBJ.out.size)⟩
              · have hd1 : decide ((j : Int) < (zs : Int)) = false := by simp; omega
                have hge : q ≤ j := by
                  have h4 : ¬ (j < za ∧ j < 29) := fun h => h1 (HPRE.out j h.1 h.2).1
                  have := hq.out
                  omega
                go_wp2_with fail
                go_quiet (fail)
                by_cases hz : (20 : Int) < (za : Int)
                · have hge2 : decide ((20 : Int) ≤ (j : Int)) = true := by have := hq.out; simp; omega
                  go_wp2_with (go_at_call 8; refine (HLV.out _).mono ?_; rintro e w4 ⟨rfl, hb4⟩)
                  go_ret
                  exact ⟨rfl, (below_drewN HBJ.out _).trans (hb4.mono HBJ.out.size)⟩
                · have hge2 : decide ((za : Int) ≤ (j : Int)) = true := by have := hq.out; simp; omega
                  have hge3 : za ≤ j := by have := hq.out; omega
                  go_wp2_with (go_at_call 8; refine (HLV.out _).mono ?_; rintro e w4 ⟨rfl, hb4⟩)
                  go_ret
                  exact ⟨rfl, (below_drewN HBJ.out _).trans (hb4.mono HBJ.out.size)⟩
  · go_enter Tryd.func5, Tryd.ntmps5
    go_wp2_with (first
      | (go_at_call 7; refine (HN.out hL).mono ?_; rintro e w1 ⟨rfl, rfl⟩)
      | (go_at_call 8; refine (HLV.out _).mono ?_; rintro e w1 ⟨rfl, hb1⟩))
    go_ret
    exact ⟨rfl, hb1⟩
end Go.Proofs.YtnagdjgicphknaaDoor
