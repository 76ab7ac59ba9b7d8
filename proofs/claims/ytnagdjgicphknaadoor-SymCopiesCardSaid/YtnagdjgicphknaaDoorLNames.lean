/- The law of two names that have one number: the walk. -/
import Derived.Test.YtnagdjgicphknaaDoorLPlays
set_option linter.unusedSimpArgs false
set_option maxRecDepth 20000
namespace Go.Proofs.YtnagdjgicphknaaDoor
open Go.RowKit

/-- A table and a row beside it, made since. -/
structure Mx (w wr : World) (g : Nat) (x : Value) (L M : List ByteArray) : Prop where
  pr : ∃ F, Tb wr g F M ∧ Rf wr x L ∧ (∀ k, x.ownBlock = some k → k ∉ F) ∧ ∀ k ∈ Pair.foot F x, w.heap.size ≤ k
  below : Below w.heap.size w wr
section
variable {w wr : World} {g : Nat} {x : Value} {L M : List ByteArray}
theorem Md.mx (h : Md w wr g x L) : Mx w wr g x L L := by
  obtain ⟨F, hP, hF⟩ := h.pr
  exact ⟨⟨F, hP.tb, hP.rf, hP.ap, hF⟩, h.below⟩
theorem Mx.later {w' : World} (h : Mx w wr g x L M) (hb : Below wr.heap.size wr w') : Mx w w' g x L M := by
  obtain ⟨F, hT, hR, ha, hF⟩ := h.pr
  exact ⟨⟨F, hT.below hb, hR.below hb, ha, hF⟩, h.below.trans (hb.mono h.below.size)⟩
theorem Mx.ok (h : Mx w wr g x L M) : Okn M := by obtain ⟨F, hT, _⟩ := h.pr; exact hT.ok
theorem Mx.went {w' : World} {M' : List ByteArray} {F : List Nat} (hR : Rf wr x L) (ha : ∀ k, x.ownBlock = some k → k ∉ F) (hF : ∀ k ∈ Pair.foot F x, w.heap.size ≤ k) (hb : Below w.heap.size w wr) (hW : Went F g M' wr w') : Mx w w' g x L M' := by
  obtain ⟨F', hT', hc⟩ := hW
  have hF0 : ∀ k ∈ F, w.heap.size ≤ k := fun k hk => hF k (by unfold Pair.foot; simp [hk])
  refine ⟨⟨F', hT', hR.other (fun k hk => hc.block k (hR.lt k hk) (ha k hk)), fun k hk hF' => (hc.fresh k hF').elim (ha k hk) (fun h2 => by have := hR.lt k hk; omega), fun k hk => ?_⟩, hc.below hb hb.size hF0⟩
  unfold Pair.foot at hk
  rcases List.mem_append.1 hk with h1 | h1
  · exact hc.high hb.size hF0 k h1
  · exact hF k (by unfold Pair.foot; exact List.mem_append.2 (.inr h1))
theorem Mx.number (h : Mx w wr g x L M) (hl : M.length ≤ 1000) (S : ByteArray) :
    Calls Tryd.prog 14 #[.pointer (some ⟨g, 0, none⟩), .string S] wr fun e w' => e = .returned (.tuple #[.int .i64 (numA M S), .int .i64 (errA S)]) ∧ Mx w w' g x L (numM M S) := by
  obtain ⟨F, hT, hR, ha, hF⟩ := h.pr
  refine (number_any hT S hl).mono ?_
  rintro e w' ⟨rfl, hW⟩
  exact ⟨rfl, Mx.went hR ha hF h.below hW⟩
theorem Mx.fresh (h : Mx w wr g x L M) (hl : M.length ≤ 98) (S : ByteArray) :
    Calls Tryd.prog 17 #[.pointer (some ⟨g, 0, none⟩), .string S] wr fun e w' => e = .returned (.tuple #[.int .i64 (frA M S), .int .i64 (errA S)]) ∧ Mx w w' g x L (frM M S) := by
  obtain ⟨F, hT, hR, ha, hF⟩ := h.pr
  refine (fresh_any hT S (.few hl)).mono ?_
  rintro e w' ⟨rfl, hW⟩
  exact ⟨rfl, Mx.went hR ha hF h.below hW⟩
theorem Mx.name (h : Mx w wr g x L M) (i : Int) : Calls Tryd.prog 16 #[.pointer (some ⟨g, 0, none⟩), .int .i64 i] wr fun e w' => e = .returned (.string (nameM M i)) ∧ wr = w' := by
  obtain ⟨F, hT, _⟩ := h.pr; exact name_any hT i
theorem Mx.find (h : Mx w wr g x L M) (S : ByteArray) (hS : S.size ≤ 140737488355328) : Calls Tryd.prog 15 #[.pointer (some ⟨g, 0, none⟩), .string S] wr fun e w' => e = .returned (.tuple #[.int .i64 (numI M S), .bool (decide (S ∈ M))]) ∧ wr = w' := by
  obtain ⟨F, hT, _⟩ := h.pr; exact find_any hT S hS
theorem Mx.at_ (h : Mx w wr g x L M) (hl : L.length ≤ 1000) (S : ByteArray) : Calls Tryd.prog 18 #[x, .string S] wr fun e w' => e = .returned (.int .i64 (atI L S)) ∧ wr = w' := by
  obtain ⟨F, _, hR, _⟩ := h.pr; exact rat_any hR hl S
end
theorem numM_at {M : List ByteArray} {S : ByteArray} (h : okB S = true) : ∃ p : Nat, numA M S = (p : Int) ∧ (numM M S)[p]? = some S := by
  unfold numA numM
  rw [if_pos h, if_pos h]
  by_cases hm : S ∈ M
  · rw [if_pos hm, if_pos hm]; exact ⟨_, rfl, atN_get hm⟩
  · rw [if_neg hm, if_neg hm]; exact ⟨_, rfl, by simp⟩
theorem numM_more {M : List ByteArray} {S T : ByteArray} {p : Nat} (h : M[p]? = some T) : (numM M S)[p]? = some T := by
  have hp := (List.getElem?_eq_some_iff.1 h).1
  unfold numM
  split
  · split
    · exact h
    · rw [List.getElem?_append_left hp]; exact h
  · exact h
theorem nd_eq {M : List ByteArray} (hn : M.Nodup) {p q : Nat} {A B : ByteArray} (hp : M[p]? = some A) (hq : M[q]? = some B) : decide (p = q) = decide (A = B) := by
  by_cases h : p = q
  · subst h; rw [hp] at hq; cases hq; simp
  · rw [decide_eq_false h]
    symm
    apply decide_eq_false
    rintro rfl
    have h1 := atN_eq hn hp
    have h2 := atN_eq hn hq
    omega
/-- What two numbers of names tell. -/
structure TwoN (M : List ByteArray) (A B : ByteArray) (p q : Nat) : Prop where
  pa : nameM M (p : Int) = A
  qb : nameM M (q : Int) = B
  eq : (((p : Int) == (q : Int)) == (A.toList == B.toList)) = true
  fi : numI M A = (p : Int)
  me : decide (A ∈ M) = true
theorem TwoN.of {M : List ByteArray} {A B : ByteArray} (hA : okB A = true) (hB : okB B = true) (hM2 : Okn (numM (numM M A) B)) : ∃ p q : Nat, numA M A = (p : Int) ∧ numA (numM M A) B = (q : Int) ∧ TwoN (numM (numM M A) B) A B p q := by
  obtain ⟨p, hp, hp2⟩ := numM_at (M := M) hA
  obtain ⟨q, hq, hq2⟩ := numM_at (M := numM M A) hB
  have hp3 := numM_more (S := B) hp2
  refine ⟨p, q, hp, hq, ⟨nameM_get hp3, nameM_get hq2, ?_, ?_, decide_eq_true (List.mem_of_getElem? hp3)⟩⟩
  · rw [beq_toList]
    have h := nd_eq hM2.nd hp3 hq2
    rw [← h]
    by_cases e : p = q
    · subst e; simp
    · have : ((p : Int) == (q : Int)) = false := by
        rw [beq_eq_false_iff_ne]; omega
      rw [this, decide_eq_false e]; rfl
  · unfold numI
    rw [if_pos (List.mem_of_getElem? hp3), atN_eq hM2.nd hp3]
theorem errA_yes {S : ByteArray} (h : okB S = true) : errA S = 0 := by unfold errA; rw [if_pos h]
theorem errA_no {S : ByteArray} (h : okB S = false) : errA S = 1 := by unfold errA; rw [if_neg (by simp [h])]
set_option maxHeartbeats 3200000 in
theorem names_walk (a : Option Addr) (n c : Nat) (f : Nat → Opv) (A B : ByteArray) (W : World) (hn : n ≤ 9223372036854775807) (hO : Ops W a n f) (_hA : A.size ≤ maxLen) (_hB : B.size ≤ maxLen) :
    Calls Tryd.prog 4 #[.slice a n c, .string A, .string B] W fun e W' => e = .returned (.bool true) ∧ Below W.heap.size W W' := by
  have HY := Lib.hid (fun hL => light_yes c hO (f := f) (n := n) hL)
  have HN := Lib.hid (fun hL => light_no c hO (f := f) (n := n) hL)
  have HLV := Lib.hid lives_any
  have HNew := Lib.hid (new_any W)
  have HM1 := Lib.hid may_any
  have HO := Lib.hid hO
  clear hO
  obtain ⟨za, hza⟩ : ∃ z, Hid (A.size = z) := ⟨_, Lib.hid rfl⟩
  obtain ⟨zb, hzb⟩ : ∃ z, Hid (B.size = z) := ⟨_, Lib.hid rfl⟩
  have hza1 := hza.out
  have hzb1 := hzb.out
  by_cases hL : Lite f n
  · by_cases h1 : 200 < za
    · have hd : decide ((200 : Int) < (za : Int)) = true := by simp; omega
      go_enter Tryd.func4, Tryd.ntmps4
      go_wp2_with (first
        | (go_at_call 7; refine (HY.out hL).mono ?_; rintro e w1 ⟨rfl, rfl⟩)
        | (go_at_call 8; refine (HLV.out _).mono ?_; rintro e w1 ⟨rfl, hb1⟩))
      go_ret
      exact ⟨rfl, hb1⟩
    · have hd : decide ((200 : Int) < (za : Int)) = false := by simp; omega
      by_cases h2 : 200 < zb
      · have hd2 : decide ((200 : Int) < (zb : Int)) = true := by simp; omega
        go_enter Tryd.func4, Tryd.ntmps4
        go_wp2_with (first
          | (go_at_call 7; refine (HY.out hL).mono ?_; rintro e w1 ⟨rfl, rfl⟩)
          | (go_at_call 8; refine (HLV.out _).mono ?_; rintro e w1 ⟨rfl, hb1⟩))
        go_ret
        exact ⟨rfl, hb1⟩
      · have hd2 : decide ((200 : Int) < (zb : Int)) = false := by simp; omega
        have HL := Lib.hid hL
        have hn60 := hL.le
        go_enter Tryd.func4, Tryd.ntmps4
        go_wp2_with (first
          | (go_at_call 7; refine (HY.out hL).mono ?_; rintro e w1 ⟨rfl, rfl⟩)
          | (go_at_call 9; refine HNew.out.mono ?_; rintro e w1 ⟨g, F, rfl, hT, hF, hb1⟩))
        have H0 : Hid (Md W w1 g (.slice none 0 0) (runM [] f 0)) := Lib.hid (Md.start hT hF hb1)
        clear hT hF hb1
        go_loopw [8, 9] (fun xv iv wr => ∃ i : Nat, i ≤ n ∧ iv = .int .i64 (i : Int) ∧ Hid (Md W wr g xv (runM [] f i))) (fun _ iv _ => n - (intOf iv).toNat)
        case atStart => exact ⟨0, by omega, by go_num, H0⟩
        case round =>
          obtain ⟨i, hi, rfl, HI⟩ := hrel
          have hlen : (runM [] f i).length ≤ 98 := by have := runM_len [] f i; simp at this; omega
          by_cases hlt : i < n
          · have hiN : (i : Int) < (n : Int) := by omega
            obtain ⟨b, o, rfl, hc⟩ := (HO.out.below HI.out.below) (by omega)
            obtain ⟨x0, x1⟩ := hc i hlt
            have HS : Hid (Calls Tryd.prog 10 #[.pointer (some ⟨g, 0, none⟩), u8, .agg #[.int .i64 (f i).kind, .string (f i).name]] wr fun e w' => ∃ y, e = .returned (.tuple #[y, .bool true]) ∧ Md W w' g y (opM (runM [] f i) (f i))) := Lib.hid (HI.out.step hlen (f i) (HL.out.sz i hlt))
            go_wp2_with (go_at_call 10; refine HS.out.mono ?_; rintro e w2 ⟨y, rfl, hI2⟩)
            go_roundw
            case rel => exact ⟨i + 1, by omega, by go_num, Lib.hid (show Md W _ g y (runM [] f (i + 1)) from hI2)⟩
            case measure => simp [intOf]; omega
          · obtain rfl : i = n := by omega
            have hl2 := runM_len [] f i
            simp at hl2
            have HX := Lib.hid HI.out.mx
            obtain ⟨M, hM⟩ : ∃ M, Hid (runM [] f i = M) := ⟨_, Lib.hid rfl⟩
            rw [hM.out] at HX hl2
            have hl3 : (numM M A).length ≤ 1000 := by have := numM_len M A; omega
            have HQ := Lib.hid (HX.out.number (by omega) A)
            clear hi HY HN HNew H0 HI hl2 hL hza1 hzb1 hd hd2 h1 h2
            go_upto_region 10 with (go_at_call 14; refine HQ.out.mono ?_; rintro e w2 ⟨rfl, hX2⟩; have HX2 := Lib.hid hX2; have HQ2 := Lib.hid (hX2.number hl3 B); clear hX2)
            go_upto_region 11 with (go_at_call 14; refine HQ2.out.mono ?_; rintro e w3 ⟨rfl, hX3⟩; have HX3 := Lib.hid hX3; clear hX3)
            clear HQ HQ2
            have hEA : (errA A == (0 : Int)) = okB A := by cases h : okB A <;> simp [errA, h]
            have hEB : (errA B == (0 : Int)) = okB B := by cases h : okB B <;> simp [errA, h]
            have hNA : (errA A != (0 : Int)) = !okB A := by cases h : okB A <;> simp [errA, h]
            have hNB : (errA B != (0 : Int)) = !okB B := by cases h : okB B <;> simp [errA, h]
            have hbA : (okB A != okB A) = false := by simp
            have hbB : (okB B != okB B) = false := by simp
            generalize errA A = ea at *
            generalize errA B = eb at *
            go_upto_region 13 with (go_at_call 11; refine (HM1.out _ _).mono ?_; rintro e w4 ⟨rfl, rfl⟩)
            have HB3 := Lib.hid HX3.out.below
            cases hA : okB A with
            | false =>
              rw [hA] at hNA
              have hNA : (ea != (0 : Int)) = true := hNA
              go_wp2_with (go_at_call 8; refine (HLV.out _).mono ?_; rintro e w4 ⟨rfl, hb4⟩)
              go_ret
              exact ⟨rfl, HB3.out.trans (hb4.mono HB3.out.size)⟩
            | true =>
              rw [hA] at hNA
              have hNA : (ea != (0 : Int)) = false := hNA
              cases hB : okB B with
              | false =>
                rw [hB] at hNB
                have hNB : (eb != (0 : Int)) = true := hNB
                go_wp2_with (go_at_call 8; refine (HLV.out _).mono ?_; rintro e w4 ⟨rfl, hb4⟩)
                go_ret
                exact ⟨rfl, HB3.out.trans (hb4.mono HB3.out.size)⟩
              | true =>
                rw [hB] at hNB
                have hNB : (eb != (0 : Int)) = false := hNB
                obtain ⟨p, q, hp, hq, hT⟩ := TwoN.of hA hB HX3.out.ok
                have hszA : A.size ≤ 140737488355328 := by have := ((okB_iff A).1 hA).2.1; omega
                rw [hp, hq]
                have HFD := Lib.hid (HX3.out.find A hszA)
                have HNM := Lib.hid (HX3.out.name)
                rw [hT.fi, hT.me] at HFD
                have HNA : Hid (Calls Tryd.prog 16 #[.pointer (some ⟨g, 0, none⟩), .int .i64 (p : Int)] w3 fun e w' => e = .returned (.string A) ∧ w3 = w') := Lib.hid (by have := HNM.out (p : Int); rwa [hT.pa] at this)
                have heq := hT.eq
                have hAA : ((nameM (numM (numM M A) B) (p : Int)).toList == A.toList) = true := by rw [hT.pa]; simp
                have hBB : ((nameM (numM (numM M A) B) (q : Int)).toList == B.toList) = true := by rw [hT.qb]; simp
                have hpp : ((p : Int) == (p : Int)) = true := by simp
                clear hp hq hT
                go_upto_region 16 with (first
                  | (go_at_call 16; refine HNA.out.mono ?_; rintro e w4 ⟨rfl, rfl⟩)
                  | (go_at_call 15; refine HFD.out.mono ?_; rintro e w4 ⟨rfl, rfl⟩))
                go_wp2_with (first
                  | (go_at_call 16; refine (HNM.out _).mono ?_; rintro e w4 ⟨rfl, rfl⟩)
                  | (go_at_call 8; refine (HLV.out _).mono ?_; rintro e w4 ⟨rfl, hb4⟩))
                go_ret
                exact ⟨rfl, HB3.out.trans (hb4.mono HB3.out.size)⟩
  · go_enter Tryd.func4, Tryd.ntmps4
    go_wp2_with (first
      | (go_at_call 7; refine (HN.out hL).mono ?_; rintro e w1 ⟨rfl, rfl⟩)
      | (go_at_call 8; refine (HLV.out _).mono ?_; rintro e w1 ⟨rfl, hb1⟩))
    go_ret
    exact ⟨rfl, hb1⟩
end Go.Proofs.YtnagdjgicphknaaDoor
