/- What the document's decoder returns. -/
import Derived.Test.YtnjlhallkgacjaaRDec0
import Derived.Deep.CutBlock
import Derived.Deep.DeepCutAuto
namespace Go.Proofs.Ytnjlhallkgacjaa
open Go.RowKit

section
variable (S : ByteArray) (s : List Nat) (w : World)
set_option maxHeartbeats 400000 in
theorem rdecode_len (hS : IsS S s) (h : s.length ≠ 128) : Calls Try.prog 13 #[.string S] w fun e w' => e = .returned (.tuple #[Rt.none_.val, .int .i64 1]) ∧ Below w.heap.size w w' := by
  have hd : ((S.size : Int) != 128) = true := by rw [hS.size]; simp; omega
  clear h hS
  unfold Rt.val Rt.none_
  go_enter Try.func13, Try.ntmps13
  go_wp2_with fail
  exact bodyPost_ret (v := .tuple #[.agg #[.int .i64 0, .int .i64 0, .int .i64 0, .int .i64 0], .int .i64 1]) (by simp [results, Try.results13, go_sem]) rfl ⟨rfl, (Below.refl _ _).alloc (Nat.le_refl _) _⟩
set_option maxHeartbeats 800000 in
theorem rdecode_zeros (hS : IsS S s) (hl : s.length = 128) (h : s = zs128) : Calls Try.prog 13 #[.string S] w fun e w' => e = .returned (.tuple #[Rt.none_.val, .int .i64 5]) ∧ Below w.heap.size w w' := by
  have hsz : S.size = 128 := by rw [hS.size, hl]
  have HIX := Lib.hid hS.index
  have HLN := Lib.hid hl
  have HSZ := Lib.hid hsz
  have hnz : ((S.size : Int) != 128) = false := by rw [hsz]; rfl
  clear hS hl hsz
  unfold Rt.val Rt.none_
  go_enter Try.func13, Try.ntmps13
  go_wp2_with fail
  have HBX : Hid (RtAt (w.alloc (.cells #[.int .i64 0, .int .i64 0, .int .i64 0, .int .i64 0] 23)) w.heap.size 23 Rt.none_) := Lib.hid (RtAt.new w Rt.none_ 23)
  have HB2 : Hid (Below w.heap.size w (w.alloc (.cells #[.int .i64 0, .int .i64 0, .int .i64 0, .int .i64 0] 23))) := Lib.hid ((Below.refl _ _).alloc (Nat.le_refl _) _)
  generalize w.alloc (.cells #[.int .i64 0, .int .i64 0, .int .i64 0, .int .i64 0] 23) = w2 at *
  clear hnz
  obtain ⟨N, hN⟩ : ∃ N, Hid (N = 128) := ⟨_, Lib.hid rfl⟩
  go_loop [4, 5] (fun zv iv => ∃ j : Nat, j ≤ 128 ∧ iv = .int .i64 (j : Int) ∧ zv = .bool (zer s j)) (fun _ i => N - (intOf i).toNat)
  case atStart => exact ⟨0, by omega, by go_num, rfl⟩
  case round =>
    obtain ⟨j, hj, rfl, rfl⟩ := hrel
    by_cases hlt : j < 128
    · have hix := HIX.out j (by rw [HLN.out]; exact hlt)
      have HNX : Hid (zer s (j + 1) = (zer s j && decide (s.getD j 0 = 0))) := Lib.hid rfl
      generalize s.getD j 0 = c at *
      have HLT := Lib.hid hlt
      have hI : (j : Int) < 128 := by omega
      clear HIX hlt hj
      cases hz : zer s j with
      | false =>
        rw [hz] at HNX
        clear hz
        go_wp2_with fail
        go_round
        case rel => exact ⟨j + 1, HLT.out, by go_num, by rw [HNX.out]; rfl⟩
        case measure => have := hN.out; have := HLT.out; simp [intOf]; omega
      | true =>
        rw [hz] at HNX
        clear hz
        by_cases hc : c = 0
        · have hb : ((c : Int) == 0) = true := by rw [beq_iff_eq]; omega
          have HE : Hid (zer s (j + 1) = true) := Lib.hid (by rw [HNX.out]; simp [hc])
          clear hc
          go_wp2_with fail
          go_round
          case rel => exact ⟨j + 1, HLT.out, by go_num, by rw [HE.out]⟩
          case measure => have := hN.out; have := HLT.out; simp [intOf]; omega
        · have hb : ((c : Int) == 0) = false := by rw [beq_eq_false_iff_ne]; omega
          have HE : Hid (zer s (j + 1) = false) := Lib.hid (by rw [HNX.out]; simp [hc])
          clear hc
          go_wp2_with fail
          go_round
          case rel => exact ⟨j + 1, HLT.out, by go_num, by rw [HE.out]⟩
          case measure => have := hN.out; have := HLT.out; simp [intOf]; omega
    · obtain rfl : j = 128 := by omega
      rw [zer_all s HLN.out]
      have hsz := HSZ.out
      clear hj hlt
      rw [decide_eq_true h]
      clear HIX h HLN
      have b0 := HBX.out.c0
      have b1 := HBX.out.c1
      have b2 := HBX.out.c2
      have b3 := HBX.out.c3
      have bf := HBX.out.fz
      go_wp2_with fail
      exact bodyPost_ret (v := .tuple #[.agg #[.int .i64 0, .int .i64 0, .int .i64 0, .int .i64 0], .int .i64 5]) (by simp [results, Try.results13, go_sem, b0, b1, b2, b3]) rfl ⟨rfl, (((HB2.out.setCell (Nat.le_refl _) _).setCell (Nat.le_refl _) _).setCell (Nat.le_refl _) _).setCell (Nat.le_refl _) _⟩
set_option maxHeartbeats 800000 in
theorem rdecode_torn (hS : IsS S s) (hl : s.length = 128) (h : s ≠ zs128) (h8 : s.take 8 ≠ s.drop 120) : Calls Try.prog 13 #[.string S] w fun e w' => e = .returned (.tuple #[Rt.none_.val, .int .i64 4]) ∧ Below w.heap.size w w' := by
  have hsz : S.size = 128 := by rw [hS.size, hl]
  have e1 := hS.ext 0 8
  have e2 := hS.ext 120 128
  rw [List.drop_zero, Nat.sub_zero] at e1
  rw [List.take_of_length_le (by rw [List.length_drop]; omega)] at e2
  have hd := e1.no e2 h8
  clear h8 e1 e2
  have HIX := Lib.hid hS.index
  have HLN := Lib.hid hl
  have HSZ := Lib.hid hsz
  have hnz : ((S.size : Int) != 128) = false := by rw [hsz]; rfl
  clear hS hl hsz
  unfold Rt.val Rt.none_
  go_enter Try.func13, Try.ntmps13
  go_wp2_with fail
  have HBX : Hid (RtAt (w.alloc (.cells #[.int .i64 0, .int .i64 0, .int .i64 0, .int .i64 0] 23)) w.heap.size 23 Rt.none_) := Lib.hid (RtAt.new w Rt.none_ 23)
  have HB2 : Hid (Below w.heap.size w (w.alloc (.cells #[.int .i64 0, .int .i64 0, .int .i64 0, .int .i64 0] 23))) := Lib.hid ((Below.refl _ _).alloc (Nat.le_refl _) _)
  generalize w.alloc (.cells #[.int .i64 0, .int .i64 0, .int .i64 0, .int .i64 0] 23) = w2 at *
  clear hnz
  obtain ⟨N, hN⟩ : ∃ N, Hid (N = 128) := ⟨_, Lib.hid rfl⟩
  go_loop [4, 5] (fun zv iv => ∃ j : Nat, j ≤ 128 ∧ iv = .int .i64 (j : Int) ∧ zv = .bool (zer s j)) (fun _ i => N - (intOf i).toNat)
  case atStart => exact ⟨0, by omega, by go_num, rfl⟩
  case round =>
    obtain ⟨j, hj, rfl, rfl⟩ := hrel
    by_cases hlt : j < 128
    · have hix := HIX.out j (by rw [HLN.out]; exact hlt)
      have HNX : Hid (zer s (j + 1) = (zer s j && decide (s.getD j 0 = 0))) := Lib.hid rfl
      generalize s.getD j 0 = c at *
      have HLT := Lib.hid hlt
      have hI : (j : Int) < 128 := by omega
      clear HIX hlt hj
      cases hz : zer s j with
      | false =>
        rw [hz] at HNX
        clear hz
        go_wp2_with fail
        go_round
        case rel => exact ⟨j + 1, HLT.out, by go_num, by rw [HNX.out]; rfl⟩
        case measure => have := hN.out; have := HLT.out; simp [intOf]; omega
      | true =>
        rw [hz] at HNX
        clear hz
        by_cases hc : c = 0
        · have hb : ((c : Int) == 0) = true := by rw [beq_iff_eq]; omega
          have HE : Hid (zer s (j + 1) = true) := Lib.hid (by rw [HNX.out]; simp [hc])
          clear hc
          go_wp2_with fail
          go_round
          case rel => exact ⟨j + 1, HLT.out, by go_num, by rw [HE.out]⟩
          case measure => have := hN.out; have := HLT.out; simp [intOf]; omega
        · have hb : ((c : Int) == 0) = false := by rw [beq_eq_false_iff_ne]; omega
          have HE : Hid (zer s (j + 1) = false) := Lib.hid (by rw [HNX.out]; simp [hc])
          clear hc
          go_wp2_with fail
          go_round
          case rel => exact ⟨j + 1, HLT.out, by go_num, by rw [HE.out]⟩
          case measure => have := hN.out; have := HLT.out; simp [intOf]; omega
    · obtain rfl : j = 128 := by omega
      rw [zer_all s HLN.out]
      have hsz := HSZ.out
      clear hj hlt
      rw [decide_eq_false h]
      clear HIX h HLN
      go_wp2_with fail
      go_quiet (fail)
      have hbq : Below w2.heap.size w2 (w2.drewN nq) := below_drewN (Below.refl _ _) nq
      have HBX3 := Lib.hid (HBX.out.below hbq)
      have HB3 := Lib.hid (HB2.out.trans (Below.mono hbq HB2.out.size))
      clear hbq HBX HB2
      generalize w2.drewN nq = w3 at *
      have b0 := HBX3.out.c0
      have b1 := HBX3.out.c1
      have b2 := HBX3.out.c2
      have b3 := HBX3.out.c3
      have bf := HBX3.out.fz
      go_wp2_with fail
      exact bodyPost_ret (v := .tuple #[.agg #[.int .i64 0, .int .i64 0, .int .i64 0, .int .i64 0], .int .i64 4]) (by simp [results, Try.results13, go_sem, b0, b1, b2, b3]) rfl ⟨rfl, (((HB3.out.setCell (Nat.le_refl _) _).setCell (Nat.le_refl _) _).setCell (Nat.le_refl _) _).setCell (Nat.le_refl _) _⟩
end
end Go.Proofs.Ytnjlhallkgacjaa
