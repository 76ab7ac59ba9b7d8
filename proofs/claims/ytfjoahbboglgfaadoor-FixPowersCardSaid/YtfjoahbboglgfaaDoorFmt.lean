/- The text of any number to any base from 2 to 16, as package fix returns it; the empty text to any other base. -/
import Derived.Test.YtfjoahbboglgfaaDoorPow2
import Derived.Test.YtfjoahbboglgfaaDoorShelf
import Derived.Lib.AppendIntMem
namespace Go.Proofs.YtfjoahbboglgfaaDoor
open Go.RowKit

theorem dec_bd : ∀ (f u : Nat), u < 2 ^ f → Lib.decDigits u = (bd 10 f u).reverse.map ch
  | 0, u, h => by
    have : u = 0 := by simpa using h
    subst this
    rw [Lib.decDigits, dif_pos (by omega)]; rfl
  | f + 1, u, h => by
    by_cases hu : u < 10
    · rw [Lib.decDigits, dif_pos hu, bd_small hu h]
      simp [ch, hu]
    · rw [Lib.decDigits, dif_neg hu, bd_big (by omega), dec_bd f (u / 10) (half (by omega) h), List.reverse_cons, List.map_append]
      have h10 : u % 10 < 10 := Nat.mod_lt _ (by omega)
      simp [ch, h10]
theorem itoa_text (a : Int) (h1 : -9223372036854775808 ≤ a) (h2 : a ≤ 9223372036854775807) : Lib.itoa a = numText 10 a := by
  have hu : a.natAbs < 2 ^ 64 := by omega
  unfold Lib.itoa numText
  by_cases ha : a < 0
  · rw [if_pos ha, if_pos ha, dec_bd 64 _ hu]; rfl
  · rw [if_neg ha, if_neg ha, show a.toNat = a.natAbs by omega, dec_bd 64 _ hu]; rfl

theorem ret_str {l l' : List UInt8} (h : l = l') : Ending.returned (.string ⟨l.toArray⟩) = .returned (.string ⟨l'.toArray⟩) := by rw [h]

/-- The library's work on a number and a base, whichever road it takes. -/
theorem bits_any (b : Nat) (a : Int) (w : World) (ht : Tabs w) (hb : 2 ≤ b) (hb2 : b ≤ 16) (hb3 : b ≠ 10) (h1 : -9223372036854775808 ≤ a) (h2 : a ≤ 9223372036854775807) :
    Calls Tryd.prog 51 #[.slice none 0 0, .int .u64 (if a < 0 then 18446744073709551616 - (a.natAbs : Int) else (a.natAbs : Int)), .int .i64 (b : Int), .bool (decide (a < 0)), .bool false] w fun e w' =>
      e = .returned (.tuple #[.slice none 0 0, .string ⟨(numText b a).toArray⟩]) ∧ Below w.heap.size w w' := by
  by_cases ha : a < 0
  · have e1 : numText b a = 45 :: (bd b 64 a.natAbs).reverse.map ch := by unfold numText; rw [if_pos ha]; rfl
    rw [if_pos ha, e1, decide_eq_true ha]
    by_cases h2b : b = 2
    · subst h2b; exact neg_2 _ w ht (by omega) (by omega)
    · by_cases h4b : b = 4
      · subst h4b; exact neg_4 _ w ht (by omega) (by omega)
      · by_cases h8b : b = 8
        · subst h8b; exact neg_8 _ w ht (by omega) (by omega)
        · by_cases h16b : b = 16
          · subst h16b; exact neg_16 _ w ht (by omega) (by omega)
          · exact gen_neg b _ w hb hb2 hb3 (by omega) (by omega) (fun w => is2_no b hb hb2 h2b h4b h8b h16b w)
  · have e1 : numText b a = (bd b 64 a.natAbs).reverse.map ch := by unfold numText; rw [if_neg ha]; rfl
    rw [if_neg ha, e1, decide_eq_false ha]
    by_cases h2b : b = 2
    · subst h2b; exact pos_2 _ w ht (by omega)
    · by_cases h4b : b = 4
      · subst h4b; exact pos_4 _ w ht (by omega)
      · by_cases h8b : b = 8
        · subst h8b; exact pos_8 _ w ht (by omega)
        · by_cases h16b : b = 16
          · subst h16b; exact pos_16 _ w ht (by omega)
          · exact gen_pos b _ w hb hb2 hb3 (by omega) (fun w => is2_no b hb hb2 h2b h4b h8b h16b w)

set_option maxHeartbeats 1600000 in
set_option maxRecDepth 100000 in
theorem fmt_in (b : Nat) (a : Int) (w : World) (ht : Tabs w) (hb : 2 ≤ b) (hb2 : b ≤ 16) (hb3 : b ≠ 10) (h1 : -9223372036854775808 ≤ a) (h2 : a ≤ 9223372036854775807) :
    Calls Tryd.prog 47 #[.int .i64 a, .int .i64 (b : Int)] w fun e w' => e = .returned (.string ⟨(numText b a).toArray⟩) ∧ Below w.heap.size w w' := by
  have hb10 : ((b : Int) == 10) = false := beq_eq_false_iff_ne.2 (by omega)
  obtain ⟨U, HU⟩ : ∃ U : Int, Hid ((if a < 0 then 18446744073709551616 - (a.natAbs : Int) else (a.natAbs : Int)) = U) := ⟨_, rfl⟩
  have hc := fun w ht => bits_any b a w ht hb hb2 hb3 h1 h2
  rw [HU.out] at hc
  have HC := Lib.hid hc
  have hw : IntKind.u64.wrap a = U := by
    rw [← HU.out, IntKind.wrap_u64]
    split <;> omega
  clear hc
  go_enter Tryd.func47, Tryd.ntmps47
  go_wp2_with fail
  refine (HC.out _ ht).mono ?_
  rintro e w' ⟨rfl, hbl⟩
  have HB := Lib.hid hbl
  clear hbl
  go_wp2_with fail
  go_ret
  exact ⟨rfl, HB.out⟩

set_option maxHeartbeats 400000 in
theorem fmt_any (b : Nat) (a : Int) (w : World) (ht : Tabs w) (hb : 2 ≤ b) (hb2 : b ≤ 16) (h1 : -9223372036854775808 ≤ a) (h2 : a ≤ 9223372036854775807) :
    Calls Tryd.prog 43 #[.int .i64 a, .int .i64 (b : Int)] w fun e w' => e = .returned (.string ⟨(numText b a).toArray⟩) ∧ Below w.heap.size w w' := by
  by_cases hb3 : b = 10
  · subst hb3
    refine (Tryd.strconv_FormatInt_10 a h1 h2 w ht.pow).mono ?_
    rintro e w' ⟨rfl, k, os, rfl⟩
    exact ⟨ret_str (itoa_text a h1 h2), Lib.below_grow _ _ (Nat.le_refl _) _ _⟩
  · go_enter Tryd.func43, Tryd.ntmps43
    go_wp2_with fail
    refine (fmt_in b a _ ht hb hb2 hb3 h1 h2).mono ?_
    rintro e w' ⟨rfl, hbl⟩
    have HB := Lib.hid hbl
    clear hbl
    go_wp2_with fail
    go_ret
    exact ⟨rfl, HB.out⟩

/-- May it be a base? -/
def baseB (b : Int) : Bool := decide (2 ≤ b ∧ b ≤ 16)
set_option maxHeartbeats 400000 in
theorem base_any (b : Int) (w : World) : Calls Tryd.prog 38 #[.int .i64 b] w fun e w' => e = .returned (.bool (baseB b)) ∧ w = w' := by
  by_cases h : 2 ≤ b
  · by_cases h2 : b ≤ 16
    · have e1 : baseB b = true := decide_eq_true ⟨h, h2⟩
      rw [e1]
      clear e1
      go_enter Tryd.func38, Tryd.ntmps38
      go_wp2
      go_ret
      exact ⟨rfl, rfl⟩
    · have e1 : baseB b = false := decide_eq_false (fun hh => h2 hh.2)
      have e2 : decide (b ≤ 16) = false := decide_eq_false h2
      rw [e1]
      clear e1
      go_enter Tryd.func38, Tryd.ntmps38
      go_wp2
      go_ret
      exact ⟨rfl, rfl⟩
  · have e1 : baseB b = false := decide_eq_false (fun hh => h hh.1)
    have e2 : decide (2 ≤ b) = false := decide_eq_false h
    rw [e1]
    clear e1
    go_enter Tryd.func38, Tryd.ntmps38
    go_wp2
    go_ret
    exact ⟨rfl, rfl⟩

set_option maxHeartbeats 400000 in
theorem text_no (b a : Int) (w : World) (hb : baseB b = false) :
    Calls Tryd.prog 30 #[.int .i64 a, .int .i64 b] w fun e w' => e = .returned (.string ⟨#[]⟩) ∧ w = w' := by
  have HB := Lib.hid hb
  clear hb
  have hc := base_any b
  rw [HB.out] at hc
  have HC := Lib.hid hc
  clear hc
  go_enter Tryd.func30, Tryd.ntmps30
  go_wp2_with fail
  refine (HC.out _).mono ?_
  rintro e w' ⟨rfl, rfl⟩
  go_wp2_with fail
  go_ret
  exact ⟨rfl, rfl⟩
set_option maxHeartbeats 400000 in
theorem text_any (b : Nat) (a : Int) (w : World) (ht : Tabs w) (hb : 2 ≤ b) (hb2 : b ≤ 16) (h1 : -9223372036854775808 ≤ a) (h2 : a ≤ 9223372036854775807) :
    Calls Tryd.prog 30 #[.int .i64 a, .int .i64 (b : Int)] w fun e w' => e = .returned (.string ⟨(numText b a).toArray⟩) ∧ Below w.heap.size w w' := by
  have hc := base_any (b : Int)
  rw [show baseB (b : Int) = true from decide_eq_true ⟨by omega, by omega⟩] at hc
  have HC := Lib.hid hc
  clear hc
  go_enter Tryd.func30, Tryd.ntmps30
  go_wp2_with fail
  refine (HC.out _).mono ?_
  rintro e w' ⟨rfl, rfl⟩
  go_wp2_with fail
  refine (fmt_any b a _ ht hb hb2 h1 h2).mono ?_
  rintro e w' ⟨rfl, hbl⟩
  have HB := Lib.hid hbl
  clear hbl
  go_wp2_with fail
  go_ret
  exact ⟨rfl, HB.out⟩

/-- The examples of the chapter hold. -/
theorem lives_text : numText 16 (-255) = [45, 102, 102] := by decide
set_option maxHeartbeats 400000 in
theorem lives_any (w : World) (ht : Tabs w) : Calls Tryd.prog 18 #[] w fun e w' => e = .returned (.bool true) ∧ Below w.heap.size w w' := by
  have c1 := add_any 9223372036854775807 1
  rw [fitV_no (by unfold Is64; omega), fitB_no (by unfold Is64; omega)] at c1
  have C1 := Lib.hid c1
  have c2 := mod_yes (-7) 2
  rw [show modV (-7) 2 = 1 by decide] at c2
  have C2 := Lib.hid c2
  have c3 := rem_yes (-7) 2
  rw [show Int.tmod (-7) 2 = -1 by decide] at c3
  have C3 := Lib.hid c3
  have c4 := text_any 16 (-255) w ht (by omega) (by omega) (by omega) (by omega)
  rw [lives_text] at c4
  have C4 := Lib.hid c4
  clear c1 c2 c3 c4
  go_enter Tryd.func18, Tryd.ntmps18
  go_wp2_with fail
  refine (C1.out _ (by omega) (by omega) (by omega) (by omega)).mono ?_
  rintro e w' ⟨rfl, rfl⟩
  go_wp2_with fail
  refine (C2.out _ (by omega) (by omega) (by omega)).mono ?_
  rintro e w' ⟨rfl, rfl⟩
  go_wp2_with fail
  refine (C3.out _ (by omega) (by omega) (by omega)).mono ?_
  rintro e w' ⟨rfl, rfl⟩
  go_wp2_with fail
  refine C4.out.mono ?_
  rintro e w' ⟨rfl, hbl⟩
  have HB := Lib.hid hbl
  clear hbl
  go_wp2_with fail
  go_ret
  exact ⟨rfl, HB.out⟩

end Go.Proofs.YtfjoahbboglgfaaDoor
