/- Texts XLC3 to RdT of this seat, laid into one. -/
import Derived.Laws.Rows
import Derived.Laws.Tables
import Derived.Deep.WholeRow
import Derived.Deep.RegionHeld3
import Derived.BigQuiet
import Derived.Deep.QuietTactic
import Derived.Deep.Cut
import Derived.Test.YthjjgpepgbfalaaGreatDoorM03
import Derived.Test.YthjjgpepgbfalaaGreatDoorM04
set_option linter.unusedVariables false
set_option linter.unusedSimpArgs false
set_option linter.constructorNameAsVariable false
section
/-! More loops of package lex over texts: what they return. -/
set_option maxRecDepth 20000
set_option linter.unusedSimpArgs false
namespace Go.Proofs.YthjjgpepgbfalaaGreatDoor.Lx
open Go.RowKit

theorem drop_two {L : List UInt8} {i : Nat} (h : i + 1 < L.length) : L.drop i = L.getD i 0 :: L.getD (i + 1) 0 :: L.drop (i + 2) := by
  rw [List.drop_eq_getElem_cons (by omega), List.drop_eq_getElem_cons (i := i + 1) h, List.getD_eq_getElem?_getD, List.getElem?_eq_getElem (by omega), List.getD_eq_getElem?_getD, List.getElem?_eq_getElem h]
  rfl
theorem drop_one {L : List UInt8} {i : Nat} (h : i < L.length) : L.drop i = L.getD i 0 :: L.drop (i + 1) := by
  rw [List.drop_eq_getElem_cons h, List.getD_eq_getElem?_getD, List.getElem?_eq_getElem h]
  rfl
/-- Two texts held against each other. -/
theorem eq_str (X : ByteArray) (l : List UInt8) : (X.toList == l) = decide (tl X = l) := by
  rw [Lib.toList_data]
  by_cases h : tl X = l
  · rw [decide_eq_true h]; rw [beq_iff_eq]; exact h
  · rw [decide_eq_false h]; rw [beq_eq_false_iff_ne]; exact h
theorem two_at (S : ByteArray) (i : Nat) (h : i + 1 < S.size) : tl (S.extract i (i + 2)) = [(tl S).getD i 0, (tl S).getD (i + 1) 0] := by
  rw [tl_extract, drop_two (by rw [tl_len]; exact h)]
  rw [show i + 2 - i = 2 by omega]; rfl
set_option maxHeartbeats 1600000 in
theorem remarkSize_any (S : ByteArray) (w : World) (hS : S.size ≤ 5000) : Calls Tryz.prog 90 #[.string S] w fun e w' => e = .returned (.int .i64 (remSz (tl S) : Int)) ∧ w = w' := by
  have HL := Lib.hid (tl_len S)
  go_enter Tryz.func90, Tryz.ntmps90
  go_wp2_with fail
  go_loop [3, 4] (fun ov iv => ∃ (o : Int) (i : Nat), ov = .int .i64 o ∧ iv = .int .i64 (i : Int) ∧ -(i : Int) ≤ o ∧ o ≤ (i : Int) ∧ i ≤ S.size ∧ Hid (remSz (tl S) = remGo ((tl S).drop i) o i)) (fun _ iv => S.size - (RowKit.intOf iv).toNat)
  case atStart => exact ⟨0, 0, rfl, rfl, by omega, by omega, by omega, Lib.hid rfl⟩
  case round =>
    obtain ⟨o, i, rfl, rfl, ho1, ho2, hi, HR⟩ := hrel
    by_cases hlt : i + 1 < S.size
    · have h2 := two_at S i hlt
      have hd := drop_two (L := tl S) (i := i) (by rw [HL.out]; exact hlt)
      generalize (tl S).getD i 0 = a at *
      generalize (tl S).getD (i + 1) 0 = b at *
      have HD := Lib.hid hd
      have e1 : ((S.extract i (i + 2)).toList == ([35, 124] : List UInt8)) = decide ([a, b] = [35, 124]) := by rw [eq_str, h2]
      have e2 : ((S.extract i (i + 2)).toList == ([124, 35] : List UInt8)) = decide ([a, b] = [124, 35]) := by rw [eq_str, h2]
      clear h2 hd
      by_cases c1 : [a, b] = [35, 124]
      · rw [decide_eq_true c1] at e1
        clear e2
        injection c1 with ca cb
        injection cb with cb
        have hr : remGo ((tl S).drop i) o i = if o + 1 = 0 then i + 2 else remGo ((tl S).drop (i + 2)) (o + 1) (i + 2) := by
          rw [HD.out, remGo, if_pos ⟨ca, cb⟩]
        by_cases h0 : o + 1 = 0
        · rw [if_pos h0] at hr
          have HV : Hid (((i : Int) + 1 + 1) = (remSz (tl S) : Int)) := by unfold Hid; rw [HR.out, hr]; omega
          have hz : (o + 1 == 0) = true := by rw [h0]; rfl
          clear hr h0
          go_wp2_with fail
          go_ret
          exact ⟨ret_int HV.out, rfl⟩
        · rw [if_neg h0] at hr
          have HV : Hid (remSz (tl S) = remGo ((tl S).drop (i + 2)) (o + 1) (i + 2)) := by unfold Hid; rw [HR.out, hr]
          have hz : (o + 1 == 0) = false := beq_false_of_ne h0
          clear hr h0
          go_wp2_with fail
          go_round
          case rel => exact ⟨o + 1, i + 2, rfl, by go_num, by omega, by omega, by omega, HV⟩
          case measure => simp [RowKit.intOf]; omega
      · rw [decide_eq_false c1] at e1
        by_cases c2 : [a, b] = [124, 35]
        · rw [decide_eq_true c2] at e2
          have hne : ¬ (a = 35 ∧ b = 124) := fun h => c1 (by rw [h.1, h.2])
          injection c2 with ca cb
          injection cb with cb
          have hr : remGo ((tl S).drop i) o i = if o - 1 = 0 then i + 2 else remGo ((tl S).drop (i + 2)) (o - 1) (i + 2) := by
            rw [HD.out, remGo, if_neg hne, if_pos ⟨ca, cb⟩]
          clear c1 hne
          by_cases h0 : o - 1 = 0
          · rw [if_pos h0] at hr
            have HV : Hid (((i : Int) + 1 + 1) = (remSz (tl S) : Int)) := by unfold Hid; rw [HR.out, hr]; omega
            have hz : (o - 1 == 0) = true := by rw [h0]; rfl
            clear hr h0
            go_wp2_with fail
            go_ret
            exact ⟨ret_int HV.out, rfl⟩
          · rw [if_neg h0] at hr
            have HV : Hid (remSz (tl S) = remGo ((tl S).drop (i + 2)) (o - 1) (i + 2)) := by unfold Hid; rw [HR.out, hr]
            have hz : (o - 1 == 0) = false := beq_false_of_ne h0
            clear hr h0
            go_wp2_with fail
            go_round
            case rel => exact ⟨o - 1, i + 2, rfl, by go_num, by omega, by omega, by omega, HV⟩
            case measure => simp [RowKit.intOf]; omega
        · rw [decide_eq_false c2] at e2
          have hn1 : ¬ (a = 35 ∧ b = 124) := fun h => c1 (by rw [h.1, h.2])
          have hn2 : ¬ (a = 124 ∧ b = 35) := fun h => c2 (by rw [h.1, h.2])
          have hr : remGo ((tl S).drop i) o i = if o = 0 then i + 1 else remGo ((tl S).drop (i + 1)) o (i + 1) := by
            rw [HD.out, remGo, if_neg hn1, if_neg hn2]
            have : (tl S).drop (i + 1) = b :: (tl S).drop (i + 2) := by
              have h3 := congrArg List.tail HD.out
              rw [List.tail_drop] at h3
              exact h3
            rw [this]
          clear c1 c2 hn1 hn2
          by_cases h0 : o = 0
          · rw [if_pos h0] at hr
            have HV : Hid (((i : Int) + 1) = (remSz (tl S) : Int)) := by unfold Hid; rw [HR.out, hr]; omega
            have hz : (o == 0) = true := by rw [h0]; rfl
            clear hr h0
            go_wp2_with fail
            go_ret
            exact ⟨ret_int HV.out, rfl⟩
          · rw [if_neg h0] at hr
            have HV : Hid (remSz (tl S) = remGo ((tl S).drop (i + 1)) o (i + 1)) := by unfold Hid; rw [HR.out, hr]
            have hz : (o == 0) = false := beq_false_of_ne h0
            clear hr h0
            go_wp2_with fail
            go_round
            case rel => exact ⟨o, i + 1, rfl, by go_num, by omega, by omega, by omega, HV⟩
            case measure => simp [RowKit.intOf]; omega
    · have hz : remGo ((tl S).drop i) o i = 0 := by
        have hl : ((tl S).drop i).length ≤ 1 := by rw [List.length_drop, HL.out]; omega
        match (tl S).drop i, hl with
        | [], _ => rfl
        | [_], _ => rfl
        | _ :: _ :: _, hl => simp at hl
      have HV : Hid ((0 : Int) = (remSz (tl S) : Int)) := by unfold Hid; rw [HR.out, hz]; rfl
      clear hz
      go_wp2_with fail
      go_ret
      exact ⟨ret_int HV.out, rfl⟩
theorem qGo_cons (c : UInt8) (t : List UInt8) (i : Nat) : qGo (c :: t) i = if c = 34 then i + 1 else if c = 92 then qGo (t.drop 1) (i + 2) else qGo t (i + 1) := by
  cases t with
  | nil => by_cases h1 : c = 34 <;> by_cases h2 : c = 92 <;> simp [qGo, h1, h2]
  | cons x u => by_cases h1 : c = 34 <;> by_cases h2 : c = 92 <;> simp [qGo, h1, h2]
set_option maxHeartbeats 1600000 in
theorem quotedSize_any (S : ByteArray) (w : World) (hS : S.size ≤ 5000) : Calls Tryz.prog 113 #[.string S] w fun e w' => e = .returned (.int .i64 (qsz (tl S) : Int)) ∧ w = w' := by
  have HL := Lib.hid (tl_len S)
  go_enter Tryz.func113, Tryz.ntmps113
  go_wp2_with fail
  go_loop [3] (fun iv => ∃ (i : Nat), iv = .int .i64 (i : Int) ∧ 1 ≤ i ∧ i ≤ S.size + 1 ∧ Hid (qsz (tl S) = qGo ((tl S).drop i) i)) (fun iv => S.size + 2 - (RowKit.intOf iv).toNat)
  case atStart => exact ⟨1, rfl, by omega, by omega, Lib.hid rfl⟩
  case round =>
    obtain ⟨i, rfl, hi1, hi, HR⟩ := hrel
    by_cases hlt : i < S.size
    · have hix := idx_any S i hlt
      have hd := drop_one (L := tl S) (i := i) (by rw [HL.out]; exact hlt)
      generalize hcd : (tl S).getD i 0 = c at *
      clear hcd
      have HD := Lib.hid hd
      clear hd
      by_cases c1 : c = 34
      · have e1 : ((c.toNat : Int) == 34) = true := by rw [c1]; rfl
        have hr : qGo ((tl S).drop i) i = i + 1 := by rw [HD.out, qGo_cons, if_pos c1]
        have HV : Hid (((i : Int) + 1) = (qsz (tl S) : Int)) := by unfold Hid; rw [HR.out, hr]; omega
        clear c1 hr
        go_wp2_with fail
        go_ret
        exact ⟨ret_int HV.out, rfl⟩
      · have e1 : ((c.toNat : Int) == 34) = false := u8_ne (k := 34) rfl c1
        by_cases c2 : c = 92
        · have e2 : ((c.toNat : Int) == 92) = true := by rw [c2]; rfl
          have hr : qGo ((tl S).drop i) i = qGo ((tl S).drop (i + 2)) (i + 2) := by
            rw [HD.out, qGo_cons, if_neg c1, if_pos c2, List.drop_drop]
          have HV : Hid (qsz (tl S) = qGo ((tl S).drop (i + 2)) (i + 2)) := by unfold Hid; rw [HR.out, hr]
          clear c1 c2 hr
          go_wp2_with fail
          go_round
          case rel => exact ⟨i + 2, by go_num, by omega, by omega, HV⟩
          case measure => simp [RowKit.intOf]; omega
        · have e2 : ((c.toNat : Int) == 92) = false := u8_ne (k := 92) rfl c2
          have hr : qGo ((tl S).drop i) i = qGo ((tl S).drop (i + 1)) (i + 1) := by rw [HD.out, qGo_cons, if_neg c1, if_neg c2]
          have HV : Hid (qsz (tl S) = qGo ((tl S).drop (i + 1)) (i + 1)) := by unfold Hid; rw [HR.out, hr]
          clear c1 c2 hr
          go_wp2_with fail
          go_round
          case rel => exact ⟨i + 1, by go_num, by omega, by omega, HV⟩
          case measure => simp [RowKit.intOf]; omega
    · have hz : qGo ((tl S).drop i) i = 0 := by rw [List.drop_of_length_le (by rw [HL.out]; omega)]; rfl
      have HV : Hid ((0 : Int) = (qsz (tl S) : Int)) := by unfold Hid; rw [HR.out, hz]; rfl
      clear hz
      go_wp2_with fail
      go_ret
      exact ⟨ret_int HV.out, rfl⟩
/-- So many bytes ahead are of a kind, where they are and the next one isn't. -/
theorem pre_at {p : UInt8 → Bool} {L : List UInt8} {m : Nat} (hm : m ≤ L.length) (h1 : ∀ j, j < m → p (L.getD j 0) = true) (h2 : m = L.length ∨ p (L.getD m 0) = false) : pre p L = m := by
  unfold pre
  induction L generalizing m with
  | nil => simp at hm; simp [hm]
  | cons b t ih =>
    cases m with
    | zero =>
      rcases h2 with h2 | h2
      · simp at h2
      · rw [List.takeWhile_cons, show p b = false from h2]; rfl
    | succ m =>
      rw [List.takeWhile_cons, show p b = true from h1 0 (by omega)]
      simp only [if_true, List.length_cons]
      rw [ih (m := m) (by simpa using hm) (fun j hj => h1 (j + 1) (by omega)) (h2.imp (fun e => by simpa using e) id)]
theorem getD_drop (L : List UInt8) (k j : Nat) : (L.drop k).getD j 0 = L.getD (k + j) 0 := by
  rw [List.getD_eq_getElem?_getD, List.getElem?_drop, List.getD_eq_getElem?_getD]
set_option maxHeartbeats 1600000 in
theorem wordSize_any (S : ByteArray) (w : World) (hS : S.size ≤ 5000) : Calls Tryz.prog 119 #[.string S] w fun e w' => e = .returned (.int .i64 (wsz (tl S) : Int)) ∧ w = w' := by
  have HL := Lib.hid (tl_len S)
  have hp := Tryz.strings_HasPrefix S ⟨#[35, 92]⟩
  rw [show Lib.hasPrefix S.data.toList (⟨#[35, 92]⟩ : ByteArray).data.toList = [35, 92].isPrefixOf (tl S) from rfl] at hp
  obtain ⟨k, hk⟩ : ∃ k, wordK (tl S) = k := ⟨_, rfl⟩
  have hkS : k ≤ S.size := by rw [← hk, ← HL.out]; unfold wordK; split <;> omega
  have HW : Hid (wsz (tl S) = k + pre inW ((tl S).drop k)) := by unfold Hid wsz; rw [hk]
  unfold wordK at hk
  obtain ⟨pb, hpb⟩ : ∃ pb, [35, 92].isPrefixOf (tl S) = pb := ⟨_, rfl⟩
  rw [hpb] at hp hk
  have HP := Lib.hid hp
  clear hp hpb
  have HIW := Lib.hid inWord_any
  have HE : ∀ i, k ≤ i → i ≤ S.size → (∀ j, k ≤ j → j < i → inW ((tl S).getD j 0) = true) → (i = S.size ∨ inW ((tl S).getD i 0) = false) → (i : Int) = (wsz (tl S) : Int) := fun i h1 h2 h3 h4 => by
    rw [HW.out, pre_at (m := i - k) (by rw [List.length_drop, HL.out]; omega) (fun j hj => by rw [getD_drop]; exact h3 _ (by omega) (by omega)) (by
      rcases h4 with h4 | h4
      · left; rw [List.length_drop, HL.out]; omega
      · right; rw [getD_drop, show k + (i - k) = i by omega]; exact h4)]
    omega
  have HE := Lib.hid HE
  clear HW
  rcases pb with _ | _
  · simp only [Bool.false_eq_true, if_false, if_true] at hk
    have hk0 : (0 : Int) = (k : Int) := by omega
    have HK0 := Lib.hid hk0
    clear hk0
    have HKS := Lib.hid hkS
    clear hk hkS
    go_enter Tryz.func119, Tryz.ntmps119
    go_wp2_with (go_at_call 89; refine (HP.out _).mono ?_; rintro e w' ⟨rfl, rfl⟩)
    go_loop [3] (fun iv => ∃ (i : Nat), iv = .int .i64 (i : Int) ∧ i ≤ S.size ∧ Hid (k ≤ i ∧ ∀ j, k ≤ j → j < i → inW ((tl S).getD j 0) = true)) (fun iv => S.size + 2 - (RowKit.intOf iv).toNat)
    case atStart => exact ⟨k, by rw [← HK0.out], HKS.out, Lib.hid ⟨Nat.le_refl _, fun j h1 h2 => by omega⟩⟩
    case round =>
      obtain ⟨i, rfl, hi, HI⟩ := hrel
      by_cases hlt : i < S.size
      · have hix := idx_any S i hlt
        obtain ⟨c, hcd⟩ : ∃ c, (tl S).getD i 0 = c := ⟨_, rfl⟩
        rw [hcd] at hix
        rcases hb : inW c with _ | _
        · have hw := HIW.out c
          rw [hb] at hw
          have HWW := Lib.hid hw
          have HV : Hid ((i : Int) = (wsz (tl S) : Int)) := Lib.hid (HE.out i HI.out.1 hi HI.out.2 (.inr (by rw [hcd]; exact hb)))
          clear hw hb hcd
          go_wp2_with (go_at_call 136; refine (HWW.out _).mono ?_; rintro e w' ⟨rfl, rfl⟩)
          go_ret
          exact ⟨ret_int HV.out, rfl⟩
        · have hw := HIW.out c
          rw [hb] at hw
          have HWW := Lib.hid hw
          have HI2 : Hid (k ≤ i + 1 ∧ ∀ j, k ≤ j → j < i + 1 → inW ((tl S).getD j 0) = true) := Lib.hid ⟨by have := HI.out.1; omega, fun j h1 h2 => by
            by_cases e : j = i
            · rw [e, hcd]; exact hb
            · exact HI.out.2 j h1 (by omega)⟩
          clear hw hb hcd
          go_wp2_with (go_at_call 136; refine (HWW.out _).mono ?_; rintro e w' ⟨rfl, rfl⟩)
          go_round
          case rel => exact ⟨i + 1, by go_num, by omega, HI2⟩
          case measure => simp [RowKit.intOf]; omega
      · have HV : Hid ((i : Int) = (wsz (tl S) : Int)) := Lib.hid (HE.out i HI.out.1 hi HI.out.2 (.inl (by omega)))
        go_wp2_with fail
        go_ret
        exact ⟨ret_int HV.out, rfl⟩
  · simp only [Bool.false_eq_true, if_false, if_true] at hk
    have hmn : min (3 : Int) (S.size : Int) = (k : Int) := by have := HL.out; omega
    have HMN := Lib.hid hmn
    clear hmn
    have HKS := Lib.hid hkS
    clear hk hkS
    go_enter Tryz.func119, Tryz.ntmps119
    go_wp2_with (go_at_call 89; refine (HP.out _).mono ?_; rintro e w' ⟨rfl, rfl⟩)
    rw [HMN.out]
    go_loop [3] (fun iv => ∃ (i : Nat), iv = .int .i64 (i : Int) ∧ i ≤ S.size ∧ Hid (k ≤ i ∧ ∀ j, k ≤ j → j < i → inW ((tl S).getD j 0) = true)) (fun iv => S.size + 2 - (RowKit.intOf iv).toNat)
    case atStart => exact ⟨k, rfl, HKS.out, Lib.hid ⟨Nat.le_refl _, fun j h1 h2 => by omega⟩⟩
    case round =>
      obtain ⟨i, rfl, hi, HI⟩ := hrel
      by_cases hlt : i < S.size
      · have hix := idx_any S i hlt
        obtain ⟨c, hcd⟩ : ∃ c, (tl S).getD i 0 = c := ⟨_, rfl⟩
        rw [hcd] at hix
        rcases hb : inW c with _ | _
        · have hw := HIW.out c
          rw [hb] at hw
          have HWW := Lib.hid hw
          have HV : Hid ((i : Int) = (wsz (tl S) : Int)) := Lib.hid (HE.out i HI.out.1 hi HI.out.2 (.inr (by rw [hcd]; exact hb)))
          clear hw hb hcd
          go_wp2_with (go_at_call 136; refine (HWW.out _).mono ?_; rintro e w' ⟨rfl, rfl⟩)
          go_ret
          exact ⟨ret_int HV.out, rfl⟩
        · have hw := HIW.out c
          rw [hb] at hw
          have HWW := Lib.hid hw
          have HI2 : Hid (k ≤ i + 1 ∧ ∀ j, k ≤ j → j < i + 1 → inW ((tl S).getD j 0) = true) := Lib.hid ⟨by have := HI.out.1; omega, fun j h1 h2 => by
            by_cases e : j = i
            · rw [e, hcd]; exact hb
            · exact HI.out.2 j h1 (by omega)⟩
          clear hw hb hcd
          go_wp2_with (go_at_call 136; refine (HWW.out _).mono ?_; rintro e w' ⟨rfl, rfl⟩)
          go_round
          case rel => exact ⟨i + 1, by go_num, by omega, HI2⟩
          case measure => simp [RowKit.intOf]; omega
      · have HV : Hid ((i : Int) = (wsz (tl S) : Int)) := Lib.hid (HE.out i HI.out.1 hi HI.out.2 (.inl (by omega)))
        go_wp2_with fail
        go_ret
        exact ⟨ret_int HV.out, rfl⟩
end Go.Proofs.YthjjgpepgbfalaaGreatDoor.Lx
end
section
/-! Tokens by value, and a result that is a token and an error. -/
set_option maxRecDepth 20000
set_option linter.unusedSimpArgs false
namespace Go.Proofs.YthjjgpepgbfalaaGreatDoor.Lx
open Go.RowKit

theorem lt_of_block {w : World} {b : Nat} {o : Obj} (h : w.heap[b]? = some o) : b < w.heap.size := (Array.getElem?_eq_some_iff.1 h).1
theorem alloc_below (u : World) (o : Obj) : Below u.heap.size u (u.alloc o) := (Below.refl _ _).alloc (Nat.le_refl _) _
theorem sizeTok : (Tryz.prog.info? 71).map (·.size) = some 4 := by kernel_rfl
theorem zeroTok : (Tryz.prog.info? 71).map (fun i => (i.zero, i.size)) = some (some (.agg #[.int .i64 0, .int .i64 0, .string ⟨#[]⟩, .int .i64 0]), 4) := by kernel_rfl
/-- The cells of a token. -/
def tkC (t : Tk) (a : Int) : Array Value := #[.int .i64 (t.k : Int), .int .i64 t.n, .string ⟨t.s.toArray⟩, .int .i64 a]
theorem results_row_tmp {P : Program} {fn : Func} {p u : Tmp} {ty : TypeId} (h : fn.results = #[.cell p ty, .tmp u]) (tmps : Array Value) (w : World) (g : Nat) (t : TypeId) (cs : Array Value) (fr : Nat × Nat) (d : TypeDesc)
    (hp : tmps.getD p undef = .pointer (some ⟨g, 0, none⟩)) (hg : w.heap[g]? = some (.cells cs t fr))
    (hu : P.underlying ty = some d) (hd : (match d with | .struct _ | .array _ _ => true | _ => false) = true) (hi : (P.info? ty).map (·.size) = some cs.size) :
    (results fn tmps).run P w = .ok (.tuple #[.agg cs, tmps.getD u undef]) w := by
  rw [results_cell_tmp h, hp]
  simp [asAddr, run_loadVar_row w g t ty cs fr d hg hu hd hi]
theorem build0 (w : World) : (Instr.build 71 #[]).run Tryz.prog w = .ok (.agg (tkC ⟨0, 0, []⟩ 0)) w := run_build w _ _ _ (by kernel_rfl)
theorem buildK (k : Int) (w : World) : (Instr.build 71 #[(0, .int .i64 k)]).run Tryz.prog w = .ok (.agg #[.int .i64 k, .int .i64 0, .string ⟨#[]⟩, .int .i64 0]) w := run_build w _ _ _ (by kernel_rfl)
theorem buildKN (k n : Int) (w : World) : (Instr.build 71 #[(0, .int .i64 k), (1, .int .i64 n)]).run Tryz.prog w = .ok (.agg #[.int .i64 k, .int .i64 n, .string ⟨#[]⟩, .int .i64 0]) w := run_build w _ _ _ (by kernel_rfl)
theorem buildKS (k : Int) (S : ByteArray) (w : World) : (Instr.build 71 #[(0, .int .i64 k), (2, .string S)]).run Tryz.prog w = .ok (.agg #[.int .i64 k, .int .i64 0, .string S, .int .i64 0]) w := run_build w _ _ _ (by kernel_rfl)
/-- What one of the functions tells that ask what a word is. -/
def askV (t : Tk) (e : Int) : Value := .tuple #[.agg (tkC t 0), .int .i64 e]
theorem below_drewN {B : Nat} {w w' : World} (h : Below B w w') : ∀ n : Nat, Below B w (w'.drewN n)
  | 0 => h
  | n + 1 => (below_drewN h n).drew
theorem box_set {w : World} {b : Nat} {c0 c1 c2 c3 : Value} {t : TypeId} (h : w.heap[b]? = some (.cells #[c0, c1, c2, c3] t (0, 0))) (d0 d1 d2 d3 : Value) :
    ((((w.setCell ⟨b, 0, none⟩ d0).setCell ⟨b, 1, none⟩ d1).setCell ⟨b, 2, none⟩ d2).setCell ⟨b, 3, none⟩ d3).heap[b]? = some (.cells #[d0, d1, d2, d3] t (0, 0)) :=
  heap_setCell_same _ _ 3 _ _ _ (heap_setCell_same _ _ 2 _ _ _ (heap_setCell_same _ _ 1 _ _ _ (heap_setCell_same _ _ 0 _ _ _ h)))
theorem box_below {w w' : World} {B b : Nat} (h : Below B w w') (hB : B ≤ b) (d0 d1 d2 d3 : Value) :
    Below B w ((((w'.setCell ⟨b, 0, none⟩ d0).setCell ⟨b, 1, none⟩ d1).setCell ⟨b, 2, none⟩ d2).setCell ⟨b, 3, none⟩ d3) :=
  (((h.setCell (p := ⟨b, 0, none⟩) hB _).setCell (p := ⟨b, 1, none⟩) hB _).setCell (p := ⟨b, 2, none⟩) hB _).setCell (p := ⟨b, 3, none⟩) hB _
/-- A box of a token: its cells, and that they may be written. -/
structure Bx4 (w : World) (b : Nat) (cs : Array Value) : Prop where
  row : w.heap[b]? = some (.cells cs 71 (0, 0))
theorem Bx4.below {w w' : World} {b : Nat} {cs : Array Value} (h : Bx4 w b cs) (hb : Below w.heap.size w w') : Bx4 w' b cs := ⟨(hb.block b (lt_of_block h.row)).trans h.row⟩
theorem Bx4.new (w : World) (cs : Array Value) : Bx4 (w.alloc (.cells cs 71)) w.heap.size cs := ⟨heap_alloc_new _ _⟩
theorem Bx4.cells {w : World} {b : Nat} {c0 c1 c2 c3 : Value} (h : Bx4 w b #[c0, c1, c2, c3]) : (w.cell? ⟨b, 0, none⟩ = some c0 ∧ w.cell? ⟨b, 1, none⟩ = some c1 ∧ w.cell? ⟨b, 2, none⟩ = some c2 ∧ w.cell? ⟨b, 3, none⟩ = some c3) ∧
    (w.frozen? ⟨b, 0, none⟩ = false ∧ w.frozen? ⟨b, 1, none⟩ = false ∧ w.frozen? ⟨b, 2, none⟩ = false ∧ w.frozen? ⟨b, 3, none⟩ = false) := by
  have h0 := cell_of_row _ _ 0 _ _ _ h.row
  have h1 := cell_of_row _ _ 1 _ _ _ h.row
  have h2 := cell_of_row _ _ 2 _ _ _ h.row
  have h3 := cell_of_row _ _ 3 _ _ _ h.row
  simp at h0 h1 h2 h3
  exact ⟨⟨h0, h1, h2, h3⟩, frozen_of_row _ _ 0 _ _ h.row, frozen_of_row _ _ 1 _ _ h.row, frozen_of_row _ _ 2 _ _ h.row, frozen_of_row _ _ 3 _ _ h.row⟩
theorem Bx4.set {w : World} {b : Nat} {c0 c1 c2 c3 : Value} (h : Bx4 w b #[c0, c1, c2, c3]) (d0 d1 d2 d3 : Value) :
    Bx4 ((((w.setCell ⟨b, 0, none⟩ d0).setCell ⟨b, 1, none⟩ d1).setCell ⟨b, 2, none⟩ d2).setCell ⟨b, 3, none⟩ d3) b #[d0, d1, d2, d3] := ⟨box_set h.row _ _ _ _⟩
set_option maxHeartbeats 800000 in
theorem dot_any (S : ByteArray) (w : World) : Calls Tryz.prog 137 #[.string S] w fun e w' => e = .returned (if tl S = [46] then askV ⟨9, 0, []⟩ 0 else askV ⟨0, 0, []⟩ 5) ∧ Below w.heap.size w w' := by
  obtain ⟨hz, -⟩ := zero_of_info (P := Tryz.prog) zeroTok
  have e1 := eq_str S [46]
  have b0 := build0
  have b1 := buildK 9
  by_cases h : tl S = [46]
  · rw [decide_eq_true h] at e1
    rw [if_pos h]
    clear h
    go_enter Tryz.func137, Tryz.ntmps137
    go_wp2_with fail
    exact bodyPost_ret (results_row_tmp rfl _ _ w.heap.size 71 _ (0, 0) _ rfl (heap_alloc_new _ _) Tryz.underlying71 rfl sizeTok) rfl ⟨rfl, alloc_below _ _⟩
  · rw [decide_eq_false h] at e1
    rw [if_neg h]
    clear h
    go_enter Tryz.func137, Tryz.ntmps137
    go_wp2_with fail
    exact bodyPost_ret (results_row_tmp rfl _ _ w.heap.size 71 _ (0, 0) _ rfl (heap_alloc_new _ _) Tryz.underlying71 rfl sizeTok) rfl ⟨rfl, alloc_below _ _⟩
set_option maxHeartbeats 800000 in
theorem truth_any (S : ByteArray) (w : World) : Calls Tryz.prog 139 #[.string S] w fun e w' => e = .returned (match boolO (tl S) with | some b => askV ⟨11, b, []⟩ 0 | none => askV ⟨0, 0, []⟩ 5) ∧ Below w.heap.size w w' := by
  obtain ⟨hz, -⟩ := zero_of_info (P := Tryz.prog) zeroTok
  have e1 := eq_str S [35, 116]
  have e2 := eq_str S [35, 116, 114, 117, 101]
  have e3 := eq_str S [35, 102]
  have e4 := eq_str S [35, 102, 97, 108, 115, 101]
  have b0 := build0
  have b1 := buildK 11
  have b2 := buildKN 11 1
  by_cases h1 : tl S = [35, 116]
  · have hb : boolO (tl S) = some 1 := by unfold boolO; rw [if_pos (.inl h1)]
    rw [hb]
    rw [decide_eq_true h1] at e1
    clear e2 e3 e4 h1 hb
    go_enter Tryz.func139, Tryz.ntmps139
    go_wp2_with fail
    exact bodyPost_ret (results_row_tmp rfl _ _ w.heap.size 71 _ (0, 0) _ rfl (heap_alloc_new _ _) Tryz.underlying71 rfl sizeTok) rfl ⟨rfl, alloc_below _ _⟩
  · rw [decide_eq_false h1] at e1
    by_cases h2 : tl S = [35, 116, 114, 117, 101]
    · have hb : boolO (tl S) = some 1 := by unfold boolO; rw [if_pos (.inr h2)]
      rw [hb]
      rw [decide_eq_true h2] at e2
      clear e3 e4 h1 h2 hb
      go_enter Tryz.func139, Tryz.ntmps139
      go_wp2_with fail
      exact bodyPost_ret (results_row_tmp rfl _ _ w.heap.size 71 _ (0, 0) _ rfl (heap_alloc_new _ _) Tryz.underlying71 rfl sizeTok) rfl ⟨rfl, alloc_below _ _⟩
    · rw [decide_eq_false h2] at e2
      by_cases h3 : tl S = [35, 102]
      · have hb : boolO (tl S) = some 0 := by unfold boolO; rw [if_neg (fun h => h.elim h1 h2), if_pos (.inl h3)]
        rw [hb]
        rw [decide_eq_true h3] at e3
        clear e4 h1 h2 h3 hb
        go_enter Tryz.func139, Tryz.ntmps139
        go_wp2_with fail
        exact bodyPost_ret (results_row_tmp rfl _ _ w.heap.size 71 _ (0, 0) _ rfl (heap_alloc_new _ _) Tryz.underlying71 rfl sizeTok) rfl ⟨rfl, alloc_below _ _⟩
      · rw [decide_eq_false h3] at e3
        by_cases h4 : tl S = [35, 102, 97, 108, 115, 101]
        · have hb : boolO (tl S) = some 0 := by unfold boolO; rw [if_neg (fun h => h.elim h1 h2), if_pos (.inr h4)]
          rw [hb]
          rw [decide_eq_true h4] at e4
          clear h1 h2 h3 h4 hb
          go_enter Tryz.func139, Tryz.ntmps139
          go_wp2_with fail
          exact bodyPost_ret (results_row_tmp rfl _ _ w.heap.size 71 _ (0, 0) _ rfl (heap_alloc_new _ _) Tryz.underlying71 rfl sizeTok) rfl ⟨rfl, alloc_below _ _⟩
        · have hb : boolO (tl S) = none := by unfold boolO; rw [if_neg (fun h => h.elim h1 h2), if_neg (fun h => h.elim h3 h4)]
          rw [hb]
          rw [decide_eq_false h4] at e4
          clear h1 h2 h3 h4 hb
          go_enter Tryz.func139, Tryz.ntmps139
          go_wp2_with fail
          exact bodyPost_ret (results_row_tmp rfl _ _ w.heap.size 71 _ (0, 0) _ rfl (heap_alloc_new _ _) Tryz.underlying71 rfl sizeTok) rfl ⟨rfl, alloc_below _ _⟩
end Go.Proofs.YthjjgpepgbfalaaGreatDoor.Lx
end
section
/-! The reader's parser, in memory. -/
set_option maxRecDepth 20000
set_option linter.unusedSimpArgs false
set_option linter.unusedVariables false
namespace Go.Proofs.YthjjgpepgbfalaaGreatDoor
open Go.RowKit

def intV (x : Int) : Value := .int .i64 x
theorem labT (S : Nat → Nat) : MapT 3 109 56 I64 intV (ptrN S) (.pointer none) :=
  ⟨keyedI, Tryz.underlying109, fun x hx => ⟨_, keyI hx.1 hx.2⟩, fun x y h => by injection h, fun w => by rw [Tryz.zeroValue56]⟩
def tk0 : Lx.Tk × Nat := (⟨0, 0, []⟩, 0)
/-- A token's four cells, from o on in block tb. -/
structure TkAt (w : World) (tb o : Nat) (x : Lx.Tk × Nat) : Prop where
  k : w.cell? ⟨tb, o, none⟩ = some (.int .i64 (x.1.k : Int))
  n : w.cell? ⟨tb, o + 1, none⟩ = some (.int .i64 x.1.n)
  s : w.cell? ⟨tb, o + 2, none⟩ = some (.string ⟨x.1.s.toArray⟩)
  a : w.cell? ⟨tb, o + 3, none⟩ = some (.int .i64 (x.2 : Int))
/-- The tokens that are left. -/
def Toks (w : World) (tb : Nat) (v : Value) (ts : List (Lx.Tk × Nat)) : Prop := ∃ q c, v = .slice q ts.length c ∧ ts.length ≤ c ∧ (ts ≠ [] → (∃ cs fr, w.heap[tb]? = some (.cells cs 71 fr)) ∧ ∃ o, q = some ⟨tb, o, none⟩ ∧ ∀ i, i < ts.length → TkAt w tb (o + i * 4) (ts.getD i tk0))
theorem TkAt.keep {w w' : World} {tb o : Nat} {x : Lx.Tk × Nat} (h : TkAt w tb o x) (hb : w'.heap[tb]? = w.heap[tb]?) : TkAt w' tb o x :=
  ⟨(World.cell?_of_block hb).trans h.k, (World.cell?_of_block hb).trans h.n, (World.cell?_of_block hb).trans h.s, (World.cell?_of_block hb).trans h.a⟩
theorem Toks.keep {w w' : World} {tb : Nat} {v : Value} {ts : List (Lx.Tk × Nat)} (h : Toks w tb v ts) (hb : (∃ cs fr, w.heap[tb]? = some (.cells cs 71 fr)) → w'.heap[tb]? = w.heap[tb]?) : Toks w' tb v ts := by
  obtain ⟨q, c, e, hc, h⟩ := h
  refine ⟨q, c, e, hc, fun hn => ?_⟩
  obtain ⟨hh, o, e2, hk⟩ := h hn
  have hb2 := hb hh
  obtain ⟨cs, fr, hh⟩ := hh
  exact ⟨⟨cs, fr, hb2.trans hh⟩, o, e2, fun i hi => (hk i hi).keep hb2⟩
theorem Toks.below {w w' : World} {tb : Nat} {v : Value} {ts : List (Lx.Tk × Nat)} (h : Toks w tb v ts) (hb : Below w.heap.size w w') : Toks w' tb v ts := h.keep fun ⟨cs, fr, hh⟩ => hb.block tb (lt_of_block hh)
/-- The parser at p: its tokens' block tb, its labels' lb; the text's length sz; dp deep. -/
structure Pm (w : World) (p sz tb dp : Nat) (S : Nat → Nat) (V : Nat → Value) (lb : Nat) (σ : Ps) : Prop where
  hd : ∃ v, w.heap[p]? = some (.cells #[v, .int .i64 (sz : Int), .map (some lb), .int .i64 (dp : Int), .int .i64 (σ.pl : Int), .int .i64 σ.e] 111 (0, 0)) ∧ Toks w tb v σ.ts
  lab : GMap 3 I64 intV (ptrN S) w lb σ.A.length σ.lab
  nds : Nds w S V σ.A
  labIn : ∀ x j, σ.lab x = some j → j < σ.A.length
  tks : ∀ x ∈ σ.ts, TkOk x.1 ∧ x.2 ≤ 100000
  dpl : dp ≤ σ.A.length
  room : σ.A.length + 2 * σ.ts.length ≤ 20000
  szl : sz ≤ 100000
  pll : σ.pl ≤ 100000
def footM (p : Nat) (S : Nat → Nat) (V : Nat → Value) (lb n : Nat) : Nat → Prop := fun k => k = p ∨ k = lb ∨ footN S V n k
section
variable {w w' w2 : World} {p sz tb dp lb : Nat} {S : Nat → Nat} {V : Nat → Value} {σ : Ps}
theorem Pm.plt (h : Pm w p sz tb dp S V lb σ) : p < w.heap.size := by obtain ⟨v, hh, _⟩ := h.hd; exact lt_of_block hh
theorem Pm.lt (h : Pm w p sz tb dp S V lb σ) : ∀ k, footM p S V lb σ.A.length k → k < w.heap.size := by
  rintro k (rfl | rfl | hk)
  · exact h.plt
  · exact h.lab.lt
  · exact h.nds.lt k hk
theorem Pm.tbn (h : Pm w p sz tb dp S V lb σ) (hh : ∃ cs fr, w.heap[tb]? = some (.cells cs 71 fr)) : ¬ footM p S V lb σ.A.length tb := by
  obtain ⟨cs, fr, hh⟩ := hh
  rintro (e | e | ⟨i, hi, e | e⟩)
  · obtain ⟨v, h1, _⟩ := h.hd; subst e; exact ne_of_ty h1 hh (by decide) rfl
  · obtain ⟨es, c, hm⟩ := h.lab.isMap; subst e; rw [hm] at hh; cases hh
  · exact ne_of_ty (h.nds.hd i hi) hh (by decide) e.symm
  · obtain ⟨cur, hc⟩ := own_head (h.nds.row i hi) e; exact ne_of_ty hc hh (by decide) rfl
theorem Pm.keep (h : Pm w p sz tb dp S V lb σ) (hb : ∀ k, footM p S V lb σ.A.length k → w'.heap[k]? = w.heap[k]?) (ht : (∃ cs fr, w.heap[tb]? = some (.cells cs 71 fr)) → w'.heap[tb]? = w.heap[tb]?) : Pm w' p sz tb dp S V lb σ := by
  obtain ⟨v, h1, h2⟩ := h.hd
  exact ⟨⟨v, (hb p (.inl rfl)).trans h1, h2.keep ht⟩, h.lab.same (hb lb (.inr (.inl rfl))), h.nds.keep fun k hk => hb k (.inr (.inr hk)), h.labIn, h.tks, h.dpl, h.room, h.szl, h.pll⟩
theorem Pm.below (h : Pm w p sz tb dp S V lb σ) (hb : Below w.heap.size w w') : Pm w' p sz tb dp S V lb σ := h.keep (fun k hk => hb.block k (h.lt k hk)) fun ⟨cs, fr, hh⟩ => hb.block tb (lt_of_block hh)
/-- The parser's cells. -/
theorem Pm.cells (h : Pm w p sz tb dp S V lb σ) : ∃ v, Toks w tb v σ.ts ∧ (w.cell? ⟨p, 0, none⟩ = some v ∧ w.cell? ⟨p, 1, none⟩ = some (.int .i64 (sz : Int)) ∧ w.cell? ⟨p, 2, none⟩ = some (.map (some lb))) ∧
    (w.cell? ⟨p, 3, none⟩ = some (.int .i64 (dp : Int)) ∧ w.cell? ⟨p, 4, none⟩ = some (.int .i64 (σ.pl : Int)) ∧ w.cell? ⟨p, 5, none⟩ = some (.int .i64 σ.e)) ∧ (∀ j, w.frozen? ⟨p, j, none⟩ = false) ∧ w.heap[p]? = some (.cells #[v, .int .i64 (sz : Int), .map (some lb), .int .i64 (dp : Int), .int .i64 (σ.pl : Int), .int .i64 σ.e] 111 (0, 0)) := by
  obtain ⟨v, hh, ht⟩ := h.hd
  refine ⟨v, ht, ⟨?_, ?_, ?_⟩, ⟨?_, ?_, ?_⟩, fun j => frozen_of_row w _ j _ _ hh, hh⟩ <;> (rw [cell_of_row w _ _ _ _ _ hh]; rfl)
theorem Pm.pne (h : Pm w p sz tb dp S V lb σ) : p ≠ lb ∧ (¬ footN S V σ.A.length p) ∧ ¬ footN S V σ.A.length lb := by
  obtain ⟨v, h1, _⟩ := h.hd
  obtain ⟨es, c, hm⟩ := h.lab.isMap
  refine ⟨fun e => ?_, ?_, ?_⟩
  · subst e; rw [hm] at h1; cases h1
  · rintro ⟨i, hi, e | e⟩
    · exact ne_of_ty (h.nds.hd i hi) h1 (by decide) e.symm
    · obtain ⟨cur, hc⟩ := own_head (h.nds.row i hi) e; exact ne_of_ty hc h1 (by decide) rfl
  · rintro ⟨i, hi, e | e⟩
    · have := h.nds.hd i hi; rw [← e, hm] at this; cases this
    · obtain ⟨cur, hc⟩ := own_head (h.nds.row i hi) e; rw [hm] at hc; cases hc
/-- A field of the parser set. -/
theorem Pm.setP (h : Pm w p sz tb dp S V lb σ) {dp' : Nat} {σ' : Ps} {v' : Value} (hw : ∀ k, k < w.heap.size → k ≠ p → w'.heap[k]? = w.heap[k]?)
    (hx : w'.heap[p]? = some (.cells #[v', .int .i64 (sz : Int), .map (some lb), .int .i64 (dp' : Int), .int .i64 (σ'.pl : Int), .int .i64 σ'.e] 111 (0, 0))) (hv : Toks w tb v' σ'.ts)
    (h1 : σ'.lab = σ.lab) (h2 : σ'.A = σ.A) (h3 : dp' ≤ σ.A.length) (h4 : ∀ x ∈ σ'.ts, TkOk x.1 ∧ x.2 ≤ 100000) (h5 : σ'.ts.length ≤ σ.ts.length) (h6 : σ'.pl ≤ 100000) : Pm w' p sz tb dp' S V lb σ' := by
  obtain ⟨n1, n2, n3⟩ := h.pne
  refine ⟨⟨v', hx, hv.keep fun hh => ?_⟩, ?_, ?_, ?_, h4, by rw [h2]; exact h3, by rw [h2]; have := h.room; omega, h.szl, h6⟩
  · have hn := h.tbn hh
    obtain ⟨cs, fr, hh⟩ := hh
    exact hw tb (lt_of_block hh) fun e => hn (.inl e)
  · rw [h1, h2]; exact h.lab.same (hw lb h.lab.lt fun e => n1 e.symm)
  · rw [h2]; exact h.nds.keep fun k hk => hw k (h.nds.lt k hk) fun e => n2 (e ▸ hk)
  · rw [h1, h2]; exact h.labIn
/-- What a call makes of it. -/
def WentM (p sz tb dp : Nat) (S : Nat → Nat) (V : Nat → Value) (lb : Nat) (σ σ' : Ps) (w w' : World) : Prop := ∃ S' V' lb', Pm w' p sz tb dp S' V' lb' σ' ∧ Chp (footM p S V lb σ.A.length) (footM p S' V' lb' σ'.A.length) w w' ∧ (∀ j, j < σ.A.length → S' j = S j) ∧ σ.A.length ≤ σ'.A.length
theorem WentM.refl (h : Pm w p sz tb dp S V lb σ) : WentM p sz tb dp S V lb σ σ w w := ⟨S, V, lb, h, Chp.refl _ _, fun _ _ => rfl, Nat.le_refl _⟩
theorem WentM.below (h : Pm w p sz tb dp S V lb σ) (hb : Below w.heap.size w w') : WentM p sz tb dp S V lb σ σ w w' := ⟨S, V, lb, h.below hb, Chp.of_below hb, fun _ _ => rfl, Nat.le_refl _⟩
end
end Go.Proofs.YthjjgpepgbfalaaGreatDoor
end
section
/-! The reader's small functions. -/
set_option maxRecDepth 20000
set_option linter.unusedSimpArgs false
set_option linter.unusedVariables false
namespace Go.Proofs.YthjjgpepgbfalaaGreatDoor
open Go.RowKit

theorem kinds17 {k : Nat} (h : k ≤ 16) : k = 0 ∨ k = 1 ∨ k = 2 ∨ k = 3 ∨ k = 4 ∨ k = 5 ∨ k = 6 ∨ k = 7 ∨ k = 8 ∨ k = 9 ∨ k = 10 ∨ k = 11 ∨ k = 12 ∨ k = 13 ∨ k = 14 ∨ k = 15 ∨ k = 16 := by omega
set_option maxHeartbeats 1600000 in
theorem begins_any (k : Nat) (hk : k ≤ 16) (w : World) : Calls Tryz.prog 96 #[.int .i64 (k : Int)] w fun e w' => e = .returned (.bool (begins k)) ∧ w = w' := by
  obtain ⟨K, hK⟩ : ∃ K : Int, K = (k : Int) := ⟨_, rfl⟩
  rw [← hK]
  rcases kinds17 hk with h | h | h | h | h | h | h | h | h | h | h | h | h | h | h | h | h <;> subst h <;> simp at hK <;> subst hK <;>
    (clear hk
     go_enter Tryz.func96, Tryz.ntmps96
     go_wp2_with fail
     go_ret
     exact ⟨rfl, rfl⟩)
set_option maxHeartbeats 1600000 in
theorem holds_any (k : Nat) (hk : k ≤ 16) (w : World) : Calls Tryz.prog 99 #[.int .i64 (k : Int)] w fun e w' => e = .returned (.bool (holds k)) ∧ w = w' := by
  obtain ⟨K, hK⟩ : ∃ K : Int, K = (k : Int) := ⟨_, rfl⟩
  rw [← hK]
  rcases kinds17 hk with h | h | h | h | h | h | h | h | h | h | h | h | h | h | h | h | h <;> subst h <;> simp at hK <;> subst hK <;>
    (clear hk
     go_enter Tryz.func99, Tryz.ntmps99
     go_wp2_with fail
     go_ret
     exact ⟨rfl, rfl⟩)
set_option maxHeartbeats 1600000 in
theorem nameOf_any (k : Nat) (hk : k ≤ 16) (w : World) : Calls Tryz.prog 101 #[.int .i64 (k : Int)] w fun e w' => e = .returned (.string ⟨(nameOf k).toArray⟩) ∧ w = w' := by
  obtain ⟨K, hK⟩ : ∃ K : Int, K = (k : Int) := ⟨_, rfl⟩
  rw [← hK]
  rcases kinds17 hk with h | h | h | h | h | h | h | h | h | h | h | h | h | h | h | h | h <;> subst h <;> simp at hK <;> subst hK <;>
    (clear hk
     go_enter Tryz.func101, Tryz.ntmps101
     go_wp2_with fail
     go_ret
     exact ⟨rfl, rfl⟩)
set_option maxHeartbeats 1600000 in
theorem isByte_any (t : Lx.Tk) (a : Nat) (w : World) : Calls Tryz.prog 97 #[.agg (Lx.tkC t (a : Int))] w fun e w' => e = .returned (.bool (isByteM t)) ∧ Below w.heap.size w w' := by
  obtain ⟨k, n, s⟩ := t
  unfold Lx.tkC
  by_cases h1 : k = 10
  · have d1 : ((k : Int) == 10) = true := by simp; omega
    by_cases h2 : 0 ≤ n
    · have d2 : decide ((0 : Int) ≤ n) = true := decide_eq_true h2
      by_cases h3 : n ≤ 255
      · have d3 : decide (n ≤ (255 : Int)) = true := decide_eq_true h3
        rw [show isByteM ⟨k, n, s⟩ = true by unfold isByteM; simp [h1, h2, h3]]
        clear h2 h3
        go_enter Tryz.func97, Tryz.ntmps97
        go_wp2_with fail
        go_ret
        exact ⟨rfl, (Below.refl _ _).alloc (Nat.le_refl _) _⟩
      · have d3 : decide (n ≤ (255 : Int)) = false := decide_eq_false h3
        rw [show isByteM ⟨k, n, s⟩ = false by unfold isByteM; simp [h1, h2, h3]]
        clear h2 h3
        go_enter Tryz.func97, Tryz.ntmps97
        go_wp2_with fail
        go_ret
        exact ⟨rfl, (Below.refl _ _).alloc (Nat.le_refl _) _⟩
    · have d2 : decide ((0 : Int) ≤ n) = false := decide_eq_false h2
      rw [show isByteM ⟨k, n, s⟩ = false by unfold isByteM; simp [h1, h2]]
      clear h2
      go_enter Tryz.func97, Tryz.ntmps97
      go_wp2_with fail
      go_ret
      exact ⟨rfl, (Below.refl _ _).alloc (Nat.le_refl _) _⟩
  · have d1 : ((k : Int) == 10) = false := by simp; omega
    rw [show isByteM ⟨k, n, s⟩ = false by unfold isByteM; simp [h1]]
    go_enter Tryz.func97, Tryz.ntmps97
    go_wp2_with fail
    go_ret
    exact ⟨rfl, (Below.refl _ _).alloc (Nat.le_refl _) _⟩
section
variable {w w' : World} {p sz tb dp lb : Nat} {S : Nat → Nat} {V : Nat → Value} {σ : Ps} {A : List Nd}
set_option maxHeartbeats 800000 in
theorem Nds.full (h : Nds w S V A) (hA : A.length ≤ 100000) {i : Nat} (hi : i < A.length) : Calls Tryz.prog 98 #[.pointer (some ⟨S i, 0, none⟩)] w fun e w' => e = .returned (.bool (fullM (ndAt A i))) ∧ w = w' := by
  obtain ⟨⟨c0, c1, c2, c3⟩, ⟨c4, c5, c6⟩, c7, c8, fz⟩ := h.cells hi
  have hlen := h.len i hi
  obtain ⟨q, cp, e⟩ := h.form hi
  rw [e] at c4
  unfold fullM
  generalize ndAt A i = x at *
  generalize x.is.length = n at *
  clear h fz e c1 c2 c3 c5 c6 c7 c8
  by_cases h1 : x.t.k = 2
  · have d1 : ((x.t.k : Int) == 2) = true := by rw [h1]; rfl
    rw [show decide (x.t.k = 2) = true from decide_eq_true h1, Bool.true_and]
    by_cases h2 : 256 ≤ n
    · have d2 : decide ((256 : Int) ≤ (n : Int)) = true := decide_eq_true (by omega)
      have d3 : decide (256 ≤ n) = true := decide_eq_true h2
      rw [d3]
      clear hlen h2 h1
      go_enter Tryz.func98, Tryz.ntmps98
      go_wp2_with fail
      go_ret
      exact ⟨rfl, rfl⟩
    · have d2 : decide ((256 : Int) ≤ (n : Int)) = false := decide_eq_false (by omega)
      have d3 : decide (256 ≤ n) = false := decide_eq_false h2
      rw [d3]
      clear hlen h2 h1
      go_enter Tryz.func98, Tryz.ntmps98
      go_wp2_with fail
      go_ret
      exact ⟨rfl, rfl⟩
  · have d1 : ((x.t.k : Int) == 2) = false := by simp; omega
    rw [show decide (x.t.k = 2) = false from decide_eq_false h1, Bool.false_and]
    clear hlen h1
    go_enter Tryz.func98, Tryz.ntmps98
    go_wp2_with fail
    go_ret
    exact ⟨rfl, rfl⟩
end
end Go.Proofs.YthjjgpepgbfalaaGreatDoor
end
section
/-! The parser's is, take, fails, close. -/
set_option maxRecDepth 20000
set_option linter.unusedSimpArgs false
set_option linter.unusedVariables false
namespace Go.Proofs.YthjjgpepgbfalaaGreatDoor
open Go.RowKit

theorem Toks.head {w : World} {tb : Nat} {v : Value} {x : Lx.Tk × Nat} {l : List (Lx.Tk × Nat)} (h : Toks w tb v (x :: l)) : ∃ o c, v = .slice (some ⟨tb, o, none⟩) (l.length + 1) (c + 1) ∧ l.length ≤ c ∧ TkAt w tb o x ∧ Toks w tb (.slice (some ⟨tb, o + 4, none⟩) l.length c) l := by
  obtain ⟨q, c, e, hc, h⟩ := h
  obtain ⟨hh, o, e2, hk⟩ := h (by simp)
  obtain ⟨c, rfl⟩ : ∃ d, c = d + 1 := ⟨c - 1, by simp at hc; omega⟩
  refine ⟨o, c, by rw [e, e2]; rfl, by simpa using hc, ?_, ?_⟩
  · have := hk 0 (by simp)
    simpa using this
  · refine ⟨_, c, rfl, by simpa using hc, fun _ => ⟨hh, o + 4, rfl, fun i hi => ?_⟩⟩
    have := hk (i + 1) (by simp; omega)
    rw [show o + 4 + i * 4 = o + (i + 1) * 4 by omega]
    simpa using this
theorem Toks.nil_ {w : World} {tb : Nat} {v : Value} (h : Toks w tb v []) : ∃ q c, v = .slice q 0 c := by
  obtain ⟨q, c, e, hc, h⟩ := h
  exact ⟨q, c, e⟩
section
variable {w w' : World} {p sz tb dp lb : Nat} {S : Nat → Nat} {V : Nat → Value} {σ : Ps}
set_option maxHeartbeats 800000 in
theorem Pm.callIs (h : Pm w p sz tb dp S V lb σ) (k : Nat) : Calls Tryz.prog 63 #[.pointer (some ⟨p, 0, none⟩), .int .i64 (k : Int)] w fun e w' => e = .returned (.bool (isK σ k)) ∧ w = w' := by
  obtain ⟨v, ht, ⟨c0, c1, c2⟩, _⟩ := h.cells
  have hrm := h.room
  unfold isK
  cases hts : σ.ts with
  | nil =>
    rw [hts] at ht
    obtain ⟨q, c, rfl⟩ := ht.nil_
    clear h hts ht c1 c2 hrm
    go_enter Tryz.func63, Tryz.ntmps63
    go_wp2_with fail
    go_ret
    exact ⟨rfl, rfl⟩
  | cons x l =>
    rw [hts] at ht hrm
    obtain ⟨o, c, rfl, hc, hx, _⟩ := ht.head
    have x0 := hx.k
    have hl : l.length ≤ 20000 := by simp at hrm; omega
    have d1 : decide ((0 : Int) < ((l.length + 1 : Nat) : Int)) = true := decide_eq_true (by omega)
    have d2 : decide (0 < l.length + 1) = true := decide_eq_true (by omega)
    have hlI : (0 : Int) < ((l.length + 1 : Nat) : Int) := by omega
    generalize l.length + 1 = n at *
    show Calls _ _ _ _ fun e w' => e = .returned (.bool (decide (x.1.k = k))) ∧ w = w'
    by_cases hk : x.1.k = k
    · have d3 : ((x.1.k : Int) == (k : Int)) = true := by rw [hk]; simp
      rw [decide_eq_true hk]
      clear h hts ht hrm hk hx c1 c2 hl hc
      go_enter Tryz.func63, Tryz.ntmps63
      go_wp2_with fail
      go_ret
      exact ⟨rfl, rfl⟩
    · have d3 : ((x.1.k : Int) == (k : Int)) = false := by simp; omega
      rw [decide_eq_false hk]
      clear h hts ht hrm hk hx c1 c2 hl hc
      go_enter Tryz.func63, Tryz.ntmps63
      go_wp2_with fail
      go_ret
      exact ⟨rfl, rfl⟩
end
end Go.Proofs.YthjjgpepgbfalaaGreatDoor
end
