/- The small functions of package lex on texts: what they return. -/
import Derived.Test.YtjpbbooeihdnfaaDoorLMdl
import Derived.Test.YtjpbbooeihdnfaaDoorLBld
import Derived.Deep.RegionWith
import Derived.BigQuiet
set_option maxRecDepth 20000
set_option linter.unusedSimpArgs false
namespace Go.Proofs.YtjpbbooeihdnfaaDoor
open Go.RowKit

/-- A text's bytes. -/
abbrev tl (S : ByteArray) : List UInt8 := S.data.toList
theorem tl_len (S : ByteArray) : (tl S).length = S.size := by rw [Array.length_toList]; rfl
theorem tl_mk (S : ByteArray) : (⟨(tl S).toArray⟩ : ByteArray) = S := rfl
theorem tl_extract (S : ByteArray) (a b : Nat) : tl (S.extract a b) = ((tl S).drop a).take (b - a) := by
  show (S.extract a b).data.toList = _
  rw [ByteArray.data_extract, Array.toList_extract, List.extract_eq_take_drop]
theorem tl_from (S : ByteArray) (a : Nat) : tl (S.extract a S.size) = (tl S).drop a := by
  rw [tl_extract, ← tl_len, List.take_of_length_le (by rw [List.length_drop]; omega)]
theorem tl_to (S : ByteArray) (b : Nat) : tl (S.extract 0 b) = (tl S).take b := by
  rw [tl_extract, List.drop_zero, Nat.sub_zero]
theorem idx_any (S : ByteArray) (i : Nat) (hi : i < S.size) (w : World) :
    (Instr.index 9 (.string S) (.int .i64 (i : Int))).run Tryd.prog w = .ok (.int .u8 (((tl S).getD i 0).toNat : Int)) w := by
  rw [run_index_string w 9 S .i64 i Tryd.underlying9, dif_pos ⟨by omega, by omega⟩]
  have e : (tl S).getD i 0 = S[i]'hi := by
    rw [List.getD_eq_getElem?_getD, List.getElem?_eq_getElem (by rw [tl_len]; exact hi)]; rfl
  rw [e]
  rfl
theorem ret_bool {a b : Bool} (h : a = b) : Ending.returned (.bool a) = .returned (.bool b) := by rw [h]
theorem isDigit_any (c : UInt8) (w : World) : Calls Tryd.prog 70 #[.int .u8 (c.toNat : Int)] w fun e w' => e = .returned (.bool (isDig c)) ∧ w = w' := by
  unfold isDig
  by_cases h1 : 48 ≤ c.toNat <;> by_cases h2 : c.toNat ≤ 57
  all_goals
    have e1 : decide ((48 : Int) ≤ (c.toNat : Int)) = decide (48 ≤ c.toNat) := by rw [decide_eq_decide]; omega
    have e2 : decide ((c.toNat : Int) ≤ (57 : Int)) = decide (c.toNat ≤ 57) := by rw [decide_eq_decide]; omega
    simp only [h1, h2, decide_true, decide_false] at e1 e2 ⊢
    clear h1 h2
    go_enter Tryd.func70, Tryd.ntmps70
    go_wp2
    go_ret
    exact ⟨rfl, rfl⟩
theorem idxB_iff (l : List UInt8) (c : UInt8) : (0 ≤ Lib.indexByte l c) ↔ l.contains c = true := by
  induction l with
  | nil => simp [Lib.indexByte]
  | cons b l ih =>
    have hg := Lib.indexByte_ge l c
    unfold Lib.indexByte
    by_cases hb : b = c
    · simp [hb]
    · have h1 : (b == c) = false := beq_false_of_ne hb
      have h2 : (c == b) = false := beq_false_of_ne (fun e => hb e.symm)
      rw [h1, List.contains_cons, h2, Bool.false_or, ← ih]
      by_cases e : Lib.indexByte l c = -1
      · simp [e]
      · have e2 : (Lib.indexByte l c == -1) = false := beq_false_of_ne e
        rw [e2]
        simp only [Bool.false_eq_true, if_false]
        omega
/-- Is a byte one of these? -/
theorem member_any (s : ByteArray) (c : UInt8) (w : World) : Calls Tryd.prog 14 #[.string s, .int .u8 (c.toNat : Int)] w fun e w' => (∃ i : Int, e = .returned (.int .i64 i) ∧ i = Lib.indexByte (tl s) c ∧ decide ((0 : Int) ≤ i) = (tl s).contains c) ∧ w' = w := by
  refine (Tryd.strings_IndexByte s (c.toNat : Int) w).mono ?_
  rintro e w' ⟨he, hw⟩
  have hc : UInt8.ofNat c.toNat = c := UInt8.ofNat_toNat
  refine ⟨⟨Lib.indexByte (tl s) c, ?_, rfl, ?_⟩, hw⟩
  · rw [he]; simp [hc]
  · rw [← Bool.coe_iff_coe, decide_eq_true_iff]; exact idxB_iff _ _
theorem inWord_any (c : UInt8) (w : World) : Calls Tryd.prog 56 #[.int .u8 (c.toNat : Int)] w fun e w' => e = .returned (.bool (inW c)) ∧ w = w' := by
  unfold inW
  have HD := Lib.hid (isDigit_any c)
  have HM := Lib.hid (member_any ⟨#[33, 36, 37, 38, 42, 47, 58, 60, 61, 62, 63, 94, 95, 126, 43, 45, 46, 64, 35]⟩ c)
  have hwm : (tl ⟨#[33, 36, 37, 38, 42, 47, 58, 60, 61, 62, 63, 94, 95, 126, 43, 45, 46, 64, 35]⟩) = wMarks := rfl
  rw [hwm] at HM
  clear hwm
  generalize wMarks.contains c = m at *
  rcases hd : isDig c with _ | _
  all_goals
    rw [hd] at HD
    by_cases h1 : 97 ≤ c.toNat <;> by_cases h2 : c.toNat ≤ 122 <;> by_cases h3 : 65 ≤ c.toNat <;> by_cases h4 : c.toNat ≤ 90
    all_goals
      have e1 : decide ((97 : Int) ≤ (c.toNat : Int)) = decide (97 ≤ c.toNat) := by rw [decide_eq_decide]; omega
      have e2 : decide ((c.toNat : Int) ≤ (122 : Int)) = decide (c.toNat ≤ 122) := by rw [decide_eq_decide]; omega
      have e3 : decide ((65 : Int) ≤ (c.toNat : Int)) = decide (65 ≤ c.toNat) := by rw [decide_eq_decide]; omega
      have e4 : decide ((c.toNat : Int) ≤ (90 : Int)) = decide (c.toNat ≤ 90) := by rw [decide_eq_decide]; omega
      simp only [h1, h2, h3, h4, decide_true, decide_false, Bool.and_true, Bool.true_and, Bool.and_false, Bool.false_and, Bool.true_or, Bool.false_or, Bool.or_true, Bool.or_false] at e1 e2 e3 e4 ⊢
      clear h1 h2 h3 h4 hd
      go_enter Tryd.func56, Tryd.ntmps56
      go_wp2_with (first
        | (go_at_call 70; refine (HD.out _).mono ?_; rintro e w' ⟨rfl, rfl⟩)
        | (go_at_call 14; refine (HM.out _).mono ?_; rintro e w' ⟨⟨i, rfl, -, hi⟩, rfl⟩))
      go_ret
      first
        | exact ⟨rfl, rfl⟩
        | exact ⟨ret_bool hi, rfl⟩
end Go.Proofs.YtjpbbooeihdnfaaDoor
