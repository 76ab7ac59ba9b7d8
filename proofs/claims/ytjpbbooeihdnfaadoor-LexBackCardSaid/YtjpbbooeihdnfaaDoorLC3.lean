/- More loops of package lex over texts: what they return. -/
import Derived.Test.YtjpbbooeihdnfaaDoorLC2
set_option maxRecDepth 20000
set_option linter.unusedSimpArgs false
namespace Go.Proofs.YtjpbbooeihdnfaaDoor
open Go.RowKit

theorem drop_two {L : List UInt8} {i : Nat} (h : i + 1 < L.length) : L.drop i = L.getD i 0 :: L.getD (i + 1) 0 :: L.drop (i + 2) := by
  rw [List.drop_eq_getElem_cons (by omega), List.drop_eq_getElem_cons (i := i + 1) h, List.getD_eq_getElem?_getD, List.getElem?_eq_getElem (by omega), List.getD_eq_getElem?_getD, List.getElem?_eq_getElem h]
  rfl
theorem drop_one {L : List UInt8} {i : Nat} (h : i < L.length) : L.drop i = L.getD i 0 :: L.drop (i + 1) := by
  rw [List.drop_eq_getElem_cons h, List.getD_eq_getElem?_getD, List.getElem?_eq_getElem h]
  rfl
/-- Two texts held against each other. -/
theorem eq_str (X : ByteArray) (l : List UInt8) : (X.toList == l) = decide (tl X = l) := by
  rw [Lib.toList_data]
  by_cases h : tl X = l
  · rw [decide_eq_true h]; rw [beq_iff_eq]; exact h
  · rw [decide_eq_false h]; rw [beq_eq_false_iff_ne]; exact h
theorem two_at (S : ByteArray) (i : Nat) (h : i + 1 < S.size) : tl (S.extract i (i + 2)) = [(tl S).getD i 0, (tl S).getD (i + 1) 0] := by
  rw [tl_extract, drop_two (by rw [tl_len]; exact h)]
  rw [show i + 2 - i = 2 by omega]; rfl
set_option maxHeartbeats 1600000 in
theorem remarkSize_any (S : ByteArray) (w : World) (hS : S.size ≤ 5000) : Calls Tryd.prog 18 #[.string S] w fun e w' => e = .returned (.int .i64 (remSz (tl S) : Int)) ∧ w = w' := by
  have HL := Lib.hid (tl_len S)
  go_enter Tryd.func18, Tryd.ntmps18
  go_wp2_with fail
  go_loop [3, 4] (fun ov iv => ∃ (o : Int) (i : Nat), ov = .int .i64 o ∧ iv = .int .i64 (i : Int) ∧ -(i : Int) ≤ o ∧ o ≤ (i : Int) ∧ i ≤ S.size ∧ Hid (remSz (tl S) = remGo ((tl S).drop i) o i)) (fun _ iv => S.size - (intOf iv).toNat)
  case atStart => exact ⟨0, 0, rfl, rfl, by omega, by omega, by omega, Lib.hid rfl⟩
  case round =>
    obtain ⟨o, i, rfl, rfl, ho1, ho2, hi, HR⟩ := hrel
    by_cases hlt : i + 1 < S.size
    · have h2 := two_at S i hlt
      have hd := drop_two (L := tl S) (i := i) (by rw [HL.out]; exact hlt)
      generalize (tl S).getD i 0 = a at *
      generalize (tl S).getD (i + 1) 0 = b at *
      have HD := Lib.hid hd
      have e1 : ((S.extract i (i + 2)).toList == ([35, 124] : List UInt8)) = decide ([a, b] = [35, 124]) := by rw [eq_str, h2]
      have e2 : ((S.extract i (i + 2)).toList == ([124, 35] : List UInt8)) = decide ([a, b] = [124, 35]) := by rw [eq_str, h2]
      clear h2 hd
      by_cases c1 : [a, b] = [35, 124]
      · rw [decide_eq_true c1] at e1
        clear e2
        injection c1 with ca cb
        injection cb with cb
        have hr : remGo ((tl S).drop i) o i = if o + 1 = 0 then i + 2 else remGo ((tl S).drop (i + 2)) (o + 1) (i + 2) := by
          rw [HD.out, remGo, if_pos ⟨ca, cb⟩]
        by_cases h0 : o + 1 = 0
        · rw [if_pos h0] at hr
          have HV : Hid (((i : Int) + 1 + 1) = (remSz (tl S) : Int)) := by unfold Hid; rw [HR.out, hr]; omega
          have hz : (o + 1 == 0) = true := by rw [h0]; rfl
          clear hr h0
          go_wp2_with fail
          go_ret
          exact ⟨ret_int HV.out, rfl⟩
        · rw [if_neg h0] at hr
          have HV : Hid (remSz (tl S) = remGo ((tl S).drop (i + 2)) (o + 1) (i + 2)) := by unfold Hid; rw [HR.out, hr]
          have hz : (o + 1 == 0) = false := beq_false_of_ne h0
          clear hr h0
          go_wp2_with fail
          go_round
          case rel => exact ⟨o + 1, i + 2, rfl, by go_num, by omega, by omega, by omega, HV⟩
          case measure => simp [intOf]; omega
      · rw [decide_eq_false c1] at e1
        by_cases c2 : [a, b] = [124, 35]
        · rw [decide_eq_true c2] at e2
          have hne : ¬ (a = 35 ∧ b = 124) := fun h => c1 (by rw [h.1, h.2])
          injection c2 with ca cb
          injection cb with cb
          have hr : remGo ((tl S).drop i) o i = if o - 1 = 0 then i + 2 else remGo ((tl S).drop (i + 2)) (o - 1) (i + 2) := by
            rw [HD.out, remGo, if_neg hne, if_pos ⟨ca, cb⟩]
          clear c1 hne
          by_cases h0 : o - 1 = 0
          · rw [if_pos h0] at hr
            have HV : Hid (((i : Int) + 1 + 1) = (remSz (tl S) : Int)) := by unfold Hid; rw [HR.out, hr]; omega
            have hz : (o - 1 == 0) = true := by rw [h0]; rfl
            clear hr h0
            go_wp2_with fail
            go_ret
            exact ⟨ret_int HV.out, rfl⟩
          · rw [if_neg h0] at hr
            have HV : Hid (remSz (tl S) = remGo ((tl S).drop (i + 2)) (o - 1) (i + 2)) := by unfold Hid; rw [HR.out, hr]
            have hz : (o - 1 == 0) = false := beq_false_of_ne h0
            clear hr h0
            go_wp2_with fail
            go_round
            case rel => exact ⟨o - 1, i + 2, rfl, by go_num, by omega, by omega, by omega, HV⟩
            case measure => simp [intOf]; omega
        · rw [decide_eq_false c2] at e2
          have hn1 : ¬ (a = 35 ∧ b = 124) := fun h => c1 (by rw [h.1, h.2])
          have hn2 : ¬ (a = 124 ∧ b = 35) := fun h => c2 (by rw [h.1, h.2])
          have hr : remGo ((tl S).drop i) o i = if o = 0 then i + 1 else remGo ((tl S).drop (i + 1)) o (i + 1) := by
            rw [HD.out, remGo, if_neg hn1, if_neg hn2]
            have : (tl S).drop (i + 1) = b :: (tl S).drop (i + 2) := by
              have h3 := congrArg List.tail HD.out
              rw [List.tail_drop] at h3
              exact h3
            rw [this]
          clear c1 c2 hn1 hn2
          by_cases h0 : o = 0
          · rw [if_pos h0] at hr
            have HV : Hid (((i : Int) + 1) = (remSz (tl S) : Int)) := by unfold Hid; rw [HR.out, hr]; omega
            have hz : (o == 0) = true := by rw [h0]; rfl
            clear hr h0
            go_wp2_with fail
            go_ret
            exact ⟨ret_int HV.out, rfl⟩
          · rw [if_neg h0] at hr
            have HV : Hid (remSz (tl S) = remGo ((tl S).drop (i + 1)) o (i + 1)) := by unfold Hid; rw [HR.out, hr]
            have hz : (o == 0) = false := beq_false_of_ne h0
            clear hr h0
            go_wp2_with fail
            go_round
            case rel => exact ⟨o, i + 1, rfl, by go_num, by omega, by omega, by omega, HV⟩
            case measure => simp [intOf]; omega
    · have hz : remGo ((tl S).drop i) o i = 0 := by
        have hl : ((tl S).drop i).length ≤ 1 := by rw [List.length_drop, HL.out]; omega
        match (tl S).drop i, hl with
        | [], _ => rfl
        | [_], _ => rfl
        | _ :: _ :: _, hl => simp at hl
      have HV : Hid ((0 : Int) = (remSz (tl S) : Int)) := by unfold Hid; rw [HR.out, hz]; rfl
      clear hz
      go_wp2_with fail
      go_ret
      exact ⟨ret_int HV.out, rfl⟩
theorem qGo_cons (c : UInt8) (t : List UInt8) (i : Nat) : qGo (c :: t) i = if c = 34 then i + 1 else if c = 92 then qGo (t.drop 1) (i + 2) else qGo t (i + 1) := by
  cases t with
  | nil => by_cases h1 : c = 34 <;> by_cases h2 : c = 92 <;> simp [qGo, h1, h2]
  | cons x u => by_cases h1 : c = 34 <;> by_cases h2 : c = 92 <;> simp [qGo, h1, h2]
set_option maxHeartbeats 1600000 in
theorem quotedSize_any (S : ByteArray) (w : World) (hS : S.size ≤ 5000) : Calls Tryd.prog 32 #[.string S] w fun e w' => e = .returned (.int .i64 (qsz (tl S) : Int)) ∧ w = w' := by
  have HL := Lib.hid (tl_len S)
  go_enter Tryd.func32, Tryd.ntmps32
  go_wp2_with fail
  go_loop [3] (fun iv => ∃ (i : Nat), iv = .int .i64 (i : Int) ∧ 1 ≤ i ∧ i ≤ S.size + 1 ∧ Hid (qsz (tl S) = qGo ((tl S).drop i) i)) (fun iv => S.size + 2 - (intOf iv).toNat)
  case atStart => exact ⟨1, rfl, by omega, by omega, Lib.hid rfl⟩
  case round =>
    obtain ⟨i, rfl, hi1, hi, HR⟩ := hrel
    by_cases hlt : i < S.size
    · have hix := idx_any S i hlt
      have hd := drop_one (L := tl S) (i := i) (by rw [HL.out]; exact hlt)
      generalize hcd : (tl S).getD i 0 = c at *
      clear hcd
      have HD := Lib.hid hd
      clear hd
      by_cases c1 : c = 34
      · have e1 : ((c.toNat : Int) == 34) = true := by rw [c1]; rfl
        have hr : qGo ((tl S).drop i) i = i + 1 := by rw [HD.out, qGo_cons, if_pos c1]
        have HV : Hid (((i : Int) + 1) = (qsz (tl S) : Int)) := by unfold Hid; rw [HR.out, hr]; omega
        clear c1 hr
        go_wp2_with fail
        go_ret
        exact ⟨ret_int HV.out, rfl⟩
      · have e1 : ((c.toNat : Int) == 34) = false := u8_ne (k := 34) rfl c1
        by_cases c2 : c = 92
        · have e2 : ((c.toNat : Int) == 92) = true := by rw [c2]; rfl
          have hr : qGo ((tl S).drop i) i = qGo ((tl S).drop (i + 2)) (i + 2) := by
            rw [HD.out, qGo_cons, if_neg c1, if_pos c2, List.drop_drop]
          have HV : Hid (qsz (tl S) = qGo ((tl S).drop (i + 2)) (i + 2)) := by unfold Hid; rw [HR.out, hr]
          clear c1 c2 hr
          go_wp2_with fail
          go_round
          case rel => exact ⟨i + 2, by go_num, by omega, by omega, HV⟩
          case measure => simp [intOf]; omega
        · have e2 : ((c.toNat : Int) == 92) = false := u8_ne (k := 92) rfl c2
          have hr : qGo ((tl S).drop i) i = qGo ((tl S).drop (i + 1)) (i + 1) := by rw [HD.out, qGo_cons, if_neg c1, if_neg c2]
          have HV : Hid (qsz (tl S) = qGo ((tl S).drop (i + 1)) (i + 1)) := by unfold Hid; rw [HR.out, hr]
          clear c1 c2 hr
          go_wp2_with fail
          go_round
          case rel => exact ⟨i + 1, by go_num, by omega, by omega, HV⟩
          case measure => simp [intOf]; omega
    · have hz : qGo ((tl S).drop i) i = 0 := by rw [List.drop_of_length_le (by rw [HL.out]; omega)]; rfl
      have HV : Hid ((0 : Int) = (qsz (tl S) : Int)) := by unfold Hid; rw [HR.out, hz]; rfl
      clear hz
      go_wp2_with fail
      go_ret
      exact ⟨ret_int HV.out, rfl⟩
/-- So many bytes ahead are of a kind, where they are and the next one isn't. -/
theorem pre_at {p : UInt8 → Bool} {L : List UInt8} {m : Nat} (hm : m ≤ L.length) (h1 : ∀ j, j < m → p (L.getD j 0) = true) (h2 : m = L.length ∨ p (L.getD m 0) = false) : pre p L = m := by
  unfold pre
  induction L generalizing m with
  | nil => simp at hm; simp [hm]
  | cons b t ih =>
    cases m with
    | zero =>
      rcases h2 with h2 | h2
      · simp at h2
      · rw [List.takeWhile_cons, show p b = false from h2]; rfl
    | succ m =>
      rw [List.takeWhile_cons, show p b = true from h1 0 (by omega)]
      simp only [if_true, List.length_cons]
      rw [ih (m := m) (by simpa using hm) (fun j hj => h1 (j + 1) (by omega)) (h2.imp (fun e => by simpa using e) id)]
theorem getD_drop (L : List UInt8) (k j : Nat) : (L.drop k).getD j 0 = L.getD (k + j) 0 := by
  rw [List.getD_eq_getElem?_getD, List.getElem?_drop, List.getD_eq_getElem?_getD]
set_option maxHeartbeats 1600000 in
theorem wordSize_any (S : ByteArray) (w : World) (hS : S.size ≤ 5000) : Calls Tryd.prog 38 #[.string S] w fun e w' => e = .returned (.int .i64 (wsz (tl S) : Int)) ∧ w = w' := by
  have HL := Lib.hid (tl_len S)
  have hp := Tryd.strings_HasPrefix S ⟨#[35, 92]⟩
  rw [show Lib.hasPrefix S.data.toList (⟨#[35, 92]⟩ : ByteArray).data.toList = [35, 92].isPrefixOf (tl S) from rfl] at hp
  obtain ⟨k, hk⟩ : ∃ k, wordK (tl S) = k := ⟨_, rfl⟩
  have hkS : k ≤ S.size := by rw [← hk, ← HL.out]; unfold wordK; split <;> omega
  have HW : Hid (wsz (tl S) = k + pre inW ((tl S).drop k)) := by unfold Hid wsz; rw [hk]
  unfold wordK at hk
  obtain ⟨pb, hpb⟩ : ∃ pb, [35, 92].isPrefixOf (tl S) = pb := ⟨_, rfl⟩
  rw [hpb] at hp hk
  have HP := Lib.hid hp
  clear hp hpb
  have HIW := Lib.hid inWord_any
  have HE : ∀ i, k ≤ i → i ≤ S.size → (∀ j, k ≤ j → j < i → inW ((tl S).getD j 0) = true) → (i = S.size ∨ inW ((tl S).getD i 0) = false) → (i : Int) = (wsz (tl S) : Int) := fun i h1 h2 h3 h4 => by
    rw [HW.out, pre_at (m := i - k) (by rw [List.length_drop, HL.out]; omega) (fun j hj => by rw [getD_drop]; exact h3 _ (by omega) (by omega)) (by
      rcases h4 with h4 | h4
      · left; rw [List.length_drop, HL.out]; omega
      · right; rw [getD_drop, show k + (i - k) = i by omega]; exact h4)]
    omega
  have HE := Lib.hid HE
  clear HW
  rcases pb with _ | _
  · simp only [Bool.false_eq_true, if_false, if_true] at hk
    have hk0 : (0 : Int) = (k : Int) := by omega
    have HK0 := Lib.hid hk0
    clear hk0
    have HKS := Lib.hid hkS
    clear hk hkS
    go_enter Tryd.func38, Tryd.ntmps38
    go_wp2_with (go_at_call 17; refine (HP.out _).mono ?_; rintro e w' ⟨rfl, rfl⟩)
    go_loop [3] (fun iv => ∃ (i : Nat), iv = .int .i64 (i : Int) ∧ i ≤ S.size ∧ Hid (k ≤ i ∧ ∀ j, k ≤ j → j < i → inW ((tl S).getD j 0) = true)) (fun iv => S.size + 2 - (intOf iv).toNat)
    case atStart => exact ⟨k, by rw [← HK0.out], HKS.out, Lib.hid ⟨Nat.le_refl _, fun j h1 h2 => by omega⟩⟩
    case round =>
      obtain ⟨i, rfl, hi, HI⟩ := hrel
      by_cases hlt : i < S.size
      · have hix := idx_any S i hlt
        obtain ⟨c, hcd⟩ : ∃ c, (tl S).getD i 0 = c := ⟨_, rfl⟩
        rw [hcd] at hix
        rcases hb : inW c with _ | _
        · have hw := HIW.out c
          rw [hb] at hw
          have HWW := Lib.hid hw
          have HV : Hid ((i : Int) = (wsz (tl S) : Int)) := Lib.hid (HE.out i HI.out.1 hi HI.out.2 (.inr (by rw [hcd]; exact hb)))
          clear hw hb hcd
          go_wp2_with (go_at_call 56; refine (HWW.out _).mono ?_; rintro e w' ⟨rfl, rfl⟩)
          go_ret
          exact ⟨ret_int HV.out, rfl⟩
        · have hw := HIW.out c
          rw [hb] at hw
          have HWW := Lib.hid hw
          have HI2 : Hid (k ≤ i + 1 ∧ ∀ j, k ≤ j → j < i + 1 → inW ((tl S).getD j 0) = true) := Lib.hid ⟨by have := HI.out.1; omega, fun j h1 h2 => by
            by_cases e : j = i
            · rw [e, hcd]; exact hb
            · exact HI.out.2 j h1 (by omega)⟩
          clear hw hb hcd
          go_wp2_with (go_at_call 56; refine (HWW.out _).mono ?_; rintro e w' ⟨rfl, rfl⟩)
          go_round
          case rel => exact ⟨i + 1, by go_num, by omega, HI2⟩
          case measure => simp [intOf]; omega
      · have HV : Hid ((i : Int) = (wsz (tl S) : Int)) := Lib.hid (HE.out i HI.out.1 hi HI.out.2 (.inl (by omega)))
        go_wp2_with fail
        go_ret
        exact ⟨ret_int HV.out, rfl⟩
  · simp only [Bool.false_eq_true, if_false, if_true] at hk
    have hmn : min (3 : Int) (S.size : Int) = (k : Int) := by have := HL.out; omega
    have HMN := Lib.hid hmn
    clear hmn
    have HKS := Lib.hid hkS
    clear hk hkS
    go_enter Tryd.func38, Tryd.ntmps38
    go_wp2_with (go_at_call 17; refine (HP.out _).mono ?_; rintro e w' ⟨rfl, rfl⟩)
    rw [HMN.out]
    go_loop [3] (fun iv => ∃ (i : Nat), iv = .int .i64 (i : Int) ∧ i ≤ S.size ∧ Hid (k ≤ i ∧ ∀ j, k ≤ j → j < i → inW ((tl S).getD j 0) = true)) (fun iv => S.size + 2 - (intOf iv).toNat)
    case atStart => exact ⟨k, rfl, HKS.out, Lib.hid ⟨Nat.le_refl _, fun j h1 h2 => by omega⟩⟩
    case round =>
      obtain ⟨i, rfl, hi, HI⟩ := hrel
      by_cases hlt : i < S.size
      · have hix := idx_any S i hlt
        obtain ⟨c, hcd⟩ : ∃ c, (tl S).getD i 0 = c := ⟨_, rfl⟩
        rw [hcd] at hix
        rcases hb : inW c with _ | _
        · have hw := HIW.out c
          rw [hb] at hw
          have HWW := Lib.hid hw
          have HV : Hid ((i : Int) = (wsz (tl S) : Int)) := Lib.hid (HE.out i HI.out.1 hi HI.out.2 (.inr (by rw [hcd]; exact hb)))
          clear hw hb hcd
          go_wp2_with (go_at_call 56; refine (HWW.out _).mono ?_; rintro e w' ⟨rfl, rfl⟩)
          go_ret
          exact ⟨ret_int HV.out, rfl⟩
        · have hw := HIW.out c
          rw [hb] at hw
          have HWW := Lib.hid hw
          have HI2 : Hid (k ≤ i + 1 ∧ ∀ j, k ≤ j → j < i + 1 → inW ((tl S).getD j 0) = true) := Lib.hid ⟨by have := HI.out.1; omega, fun j h1 h2 => by
            by_cases e : j = i
            · rw [e, hcd]; exact hb
            · exact HI.out.2 j h1 (by omega)⟩
          clear hw hb hcd
          go_wp2_with (go_at_call 56; refine (HWW.out _).mono ?_; rintro e w' ⟨rfl, rfl⟩)
          go_round
          case rel => exact ⟨i + 1, by go_num, by omega, HI2⟩
          case measure => simp [intOf]; omega
      · have HV : Hid ((i : Int) = (wsz (tl S) : Int)) := Lib.hid (HE.out i HI.out.1 hi HI.out.2 (.inl (by omega)))
        go_wp2_with fail
        go_ret
        exact ⟨ret_int HV.out, rfl⟩
end Go.Proofs.YtjpbbooeihdnfaaDoor
