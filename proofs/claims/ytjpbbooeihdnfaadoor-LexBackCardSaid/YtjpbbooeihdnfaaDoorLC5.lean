/- Bytes of hex digits, symbols, characters. -/
import Derived.Test.YtjpbbooeihdnfaaDoorLC4
set_option maxRecDepth 20000
set_option linter.unusedSimpArgs false
namespace Go.Proofs.YtjpbbooeihdnfaaDoor
open Go.RowKit

theorem cons_of {S : ByteArray} (h : tl S ≠ []) : 0 < S.size ∧ (tl S).head? = some ((tl S).getD 0 0) := by
  have hl := tl_len S
  cases e : tl S with
  | nil => exact absurd e h
  | cons a t => rw [e] at hl; exact ⟨by rw [← hl]; simp, rfl⟩
def bofV (L : List UInt8) : Value := if byteOk L = true then .tuple #[.int .i64 (parseV 16 L), .bool true] else .tuple #[.int .i64 0, .bool false]
set_option maxHeartbeats 1600000 in
theorem byteOf_any (S : ByteArray) (w : World) (hS : S.size ≤ 5000) : Calls Tryd.prog 64 #[.string S] w fun e w' => e = .returned (bofV (tl S)) ∧ Below w.heap.size w w' := by
  have hll := tl_len S
  have hem : S.toList.isEmpty = (tl S).isEmpty := by rw [Go.Lib.toList_data]
  unfold bofV byteOk
  by_cases h0 : tl S = []
  · rw [h0] at hem ⊢
    have he : S.toList.isEmpty = true := hem
    have he2 := eq_str S []
    rw [h0] at he2
    have he3 : (S.toList == []) = true := he2
    rw [if_neg (by simp)]
    clear hem he2 h0 hll
    go_enter Tryd.func64, Tryd.ntmps64
    go_wp2_with fail
    go_ret2
    exact ⟨rfl, Below.refl _ _⟩
  · obtain ⟨hpos, hhd⟩ := cons_of h0
    have he2 := eq_str S []
    rw [decide_eq_false h0] at he2
    have he : S.toList.isEmpty = false := by rw [hem]; cases e : tl S with | nil => exact absurd e h0 | cons a t => rfl
    have hi0 : ∀ w, (Instr.index 9 (.string S) (.int .i64 0)).run Tryd.prog w = .ok (.int .u8 (((tl S).getD 0 0).toNat : Int)) w := fun w => idx_any S 0 hpos w
    have hne : (tl S == []) = false := beq_false_of_ne h0
    rw [hhd, hne]
    generalize (tl S).getD 0 0 = c at *
    have hpa : ∀ w, Calls Tryd.prog 37 #[.string S, .int .i64 16] w fun e w' => e = .returned (.tuple #[.int .i64 (parseV 16 (tl S)), .int .i64 (parseE 16 (tl S))]) ∧ Below w.heap.size w w' := fun w => parse_any 16 (tl S) w (by decide) (by decide) (by omega)
    generalize parseV 16 (tl S) = V at *
    generalize parseE 16 (tl S) = E at *
    have HPA := Lib.hid hpa
    clear hpa hne hhd hll h0 hem
    by_cases c1 : c = 43
    · have e1 : ((c.toNat : Int) == 43) = true := by rw [c1]; rfl
      rw [c1, if_neg (by simp)]
      clear c1
      go_enter Tryd.func64, Tryd.ntmps64
      go_wp2_with fail
      go_ret2
      exact ⟨rfl, Below.refl _ _⟩
    · have e1 : ((c.toNat : Int) == 43) = false := u8_ne (k := 43) rfl c1
      by_cases c2 : c = 45
      · have e2 : ((c.toNat : Int) == 45) = true := by rw [c2]; rfl
        rw [c2, if_neg (by simp)]
        clear c1 c2
        go_enter Tryd.func64, Tryd.ntmps64
        go_wp2_with fail
        go_ret2
        exact ⟨rfl, Below.refl _ _⟩
      · have e2 : ((c.toNat : Int) == 45) = false := u8_ne (k := 45) rfl c2
        have hc : (!(false || some c == some 43 || some c == some 45) && (E == 0 && decide (V < 128))) = (E == 0 && decide (V < 128)) := by
          have h1 : (some c == some 43) = false := beq_false_of_ne (fun h => c1 (Option.some.inj h))
          have h2 : (some c == some 45) = false := beq_false_of_ne (fun h => c2 (Option.some.inj h))
          rw [h1, h2]; rfl
        rw [hc]
        clear hc c1 c2
        by_cases hE : E = 0
        · subst hE
          by_cases hV : V < 128
          · have hd : decide ((128 : Int) ≤ V) = false := decide_eq_false (by omega)
            rw [decide_eq_true hV, if_pos (show ((0 : Int) == 0 && true) = true from rfl)]
            go_enter Tryd.func64, Tryd.ntmps64
            go_wp2_with (go_at_call 37; refine (HPA.out _).mono ?_; rintro e w2 ⟨rfl, hb⟩; have HB := Lib.hid hb; clear hb)
            go_ret2
            exact ⟨rfl, HB.out⟩
          · have hd : decide ((128 : Int) ≤ V) = true := decide_eq_true (by omega)
            rw [decide_eq_false hV, if_neg (by simp)]
            go_enter Tryd.func64, Tryd.ntmps64
            go_wp2_with (go_at_call 37; refine (HPA.out _).mono ?_; rintro e w2 ⟨rfl, hb⟩; have HB := Lib.hid hb; clear hb)
            go_ret2
            exact ⟨rfl, HB.out⟩
        · have hE2 : (E == 0) = false := beq_false_of_ne hE
          have hE3 : (E != 0) = true := by rw [bne, hE2]; rfl
          rw [hE2, if_neg (by simp)]
          clear hE
          go_enter Tryd.func64, Tryd.ntmps64
          go_wp2_with (go_at_call 37; refine (HPA.out _).mono ?_; rintro e w2 ⟨rfl, hb⟩; have HB := Lib.hid hb; clear hb)
          go_ret2
          exact ⟨rfl, HB.out⟩
set_option maxHeartbeats 1600000 in
theorem beginsNumber_any (S : ByteArray) (w : World) (hS : S.size ≤ 5000) (h0 : 0 < S.size) : Calls Tryd.prog 73 #[.string S] w fun e w' => e = .returned (.bool (begN (tl S))) ∧ w = w' := by
  have hll := tl_len S
  have hi0 : ∀ w, (Instr.index 9 (.string S) (.int .i64 0)).run Tryd.prog w = .ok (.int .u8 (((tl S).getD 0 0).toNat : Int)) w := fun w => idx_any S 0 h0 w
  have hbg : begN (tl S) = (isDig ((tl S).getD 0 0) || (decide (1 < S.size) && ((tl S).getD 0 0 == 43 || (tl S).getD 0 0 == 45) && isDig ((tl S).getD 1 0))) := by unfold begN; rw [hll]
  rw [hbg]
  have HD := Lib.hid isDigit_any
  by_cases h1 : 1 < S.size
  · have hi1 : ∀ w, (Instr.index 9 (.string S) (.int .i64 1)).run Tryd.prog w = .ok (.int .u8 (((tl S).getD 1 0).toNat : Int)) w := fun w => idx_any S 1 h1 w
    have hd : decide ((1 : Int) < (S.size : Int)) = true := decide_eq_true (by omega)
    have hd2 : decide (1 < S.size) = true := decide_eq_true h1
    rw [hd2]
    generalize (tl S).getD 0 0 = c at *
    generalize (tl S).getD 1 0 = d at *
    have H1 := HD.out c
    have H2 := HD.out d
    rcases hc : isDig c with _ | _
    all_goals
      rw [hc] at H1
      have HC := Lib.hid H1
      have HD2 := Lib.hid H2
      clear H1 H2 hbg hll HD hc
      by_cases c1 : c = 43
      · have e1 : ((c.toNat : Int) == 43) = true := by rw [c1]; rfl
        have hq : (c == 43) = true := by rw [c1]; rfl
        rw [hq]
        clear c1 hq
        go_enter Tryd.func73, Tryd.ntmps73
        go_wp2_with (go_at_call 70; first | (with_reducible refine (HC.out _).mono ?_; rintro e w' ⟨rfl, rfl⟩) | (with_reducible refine (HD2.out _).mono ?_; rintro e w' ⟨rfl, rfl⟩))
        all_goals go_ret
        all_goals exact ⟨rfl, rfl⟩
      · have e1 : ((c.toNat : Int) == 43) = false := u8_ne (k := 43) rfl c1
        have hq : (c == 43) = false := beq_false_of_ne c1
        rw [hq]
        by_cases c2 : c = 45
        · have e2 : ((c.toNat : Int) == 45) = true := by rw [c2]; rfl
          have hq : (c == 45) = true := by rw [c2]; rfl
          rw [hq]
          clear c1 c2 hq
          go_enter Tryd.func73, Tryd.ntmps73
          go_wp2_with (go_at_call 70; first | (with_reducible refine (HC.out _).mono ?_; rintro e w' ⟨rfl, rfl⟩) | (with_reducible refine (HD2.out _).mono ?_; rintro e w' ⟨rfl, rfl⟩))
          all_goals go_ret
          all_goals exact ⟨rfl, rfl⟩
        · have e2 : ((c.toNat : Int) == 45) = false := u8_ne (k := 45) rfl c2
          have hq : (c == 45) = false := beq_false_of_ne c2
          rw [hq]
          clear c1 c2 hq
          go_enter Tryd.func73, Tryd.ntmps73
          go_wp2_with (go_at_call 70; first | (with_reducible refine (HC.out _).mono ?_; rintro e w' ⟨rfl, rfl⟩) | (with_reducible refine (HD2.out _).mono ?_; rintro e w' ⟨rfl, rfl⟩))
          all_goals go_ret
          all_goals exact ⟨rfl, rfl⟩
  · have hd : decide ((1 : Int) < (S.size : Int)) = false := decide_eq_false (by omega)
    have hd2 : decide (1 < S.size) = false := decide_eq_false h1
    rw [hd2]
    generalize (tl S).getD 0 0 = c at *
    have H1 := HD.out c
    rcases hc : isDig c with _ | _
    all_goals
      rw [hc] at H1
      have HC := Lib.hid H1
      clear H1 hbg hll HD hc
      go_enter Tryd.func73, Tryd.ntmps73
      go_wp2_with (go_at_call 70; refine (HC.out _).mono ?_; rintro e w' ⟨rfl, rfl⟩)
      all_goals go_ret
      all_goals exact ⟨rfl, rfl⟩
end Go.Proofs.YtjpbbooeihdnfaaDoor
