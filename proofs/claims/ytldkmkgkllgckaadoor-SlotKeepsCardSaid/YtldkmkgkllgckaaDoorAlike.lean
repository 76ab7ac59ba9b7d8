/- A page is as the document's slots. -/
import Derived.Test.YtldkmkgkllgckaaDoorLives
import Derived.Test.YtldkmkgkllgckaaDoorRBytes
set_option linter.unusedSimpArgs false
namespace Go.Proofs.YtldkmkgkllgckaaDoor
open Go.RowKit

section
variable {w : World} {g : Nat} {v x : Value} {l : List Sl}
set_option maxRecDepth 20000 in
set_option maxHeartbeats 1600000 in
theorem alike_any (h : Pg0 w g v l) (hx : Rf w x l) : Calls Tryd.prog 8 #[.pointer (some ⟨g, 0, none⟩), x] w fun e w' => e = .returned (.bool true) ∧ Below w.heap.size w w' := by
  have HL := Lib.hid (len_any h)
  have HBy := Lib.hid (bytes_any h)
  have HRB : Hid (∀ w1, Below w.heap.size w w1 → Calls Tryd.prog 22 #[x] w1 fun e w' => e = .returned (.string (bytesS l)) ∧ Below w1.heap.size w1 w') := Lib.hid (fun w1 hb => rbytes_any (hx.below hb) h.ok)
  have HG : Hid (∀ w1 i, Below w.heap.size w w1 → Calls Tryd.prog 15 #[.pointer (some ⟨g, 0, none⟩), .int .i64 i] w1 fun e w' => e = .returned (.tuple #[.string (getS l i), .bool (fullI l i)]) ∧ Below w1.heap.size w1 w') := Lib.hid (fun w1 i hb => get_any (h.below hb) i)
  have HX := Lib.hid hx
  have hl := h.ok.len
  obtain ⟨q, c, rfl⟩ := hx.form
  clear h hx
  obtain ⟨N, HN⟩ : ∃ N, Hid (l.length = N) := ⟨_, Lib.hid rfl⟩
  rw [HN.out] at HL hl HRB ⊢
  have hnn : ((N : Int) != (N : Int)) = false := by simp
  generalize hS : bytesS l = S at *
  have hss : (S.toList == S.toList) = true := by simp
  clear hS
  go_enter Tryd.func8, Tryd.ntmps8
  go_wp2_with fail
  refine HL.out.mono ?_
  rintro e w1 ⟨rfl, rfl⟩
  go_wp2_with fail
  refine HBy.out.mono ?_
  rintro e w1 ⟨rfl, hb⟩
  have HB1 := Lib.hid hb
  clear hb
  go_wp2_with fail
  refine (HRB.out _ HB1.out).mono ?_
  rintro e w2 ⟨rfl, hb⟩
  have HB2 := Lib.hid (HB1.out.trans (hb.mono HB1.out.size))
  clear hb HB1
  go_wp2_with fail
  go_loopw [5] (fun iv wr => ∃ i : Int, -1 ≤ i ∧ i ≤ (N : Int) + 1 ∧ iv = .int .i64 i ∧ Hid (Below w.heap.size w wr)) (fun iv _ => ((N : Int) + 1 - intOf iv).toNat)
  case atStart => exact ⟨-1, by omega, by omega, rfl, HB2⟩
  case round =>
    obtain ⟨i, hi0, hi1, rfl, hb⟩ := hrel
    by_cases hend : i ≤ (N : Int)
    · have hd : decide (i ≤ (N : Int)) = true := decide_eq_true hend
      have HG1 := Lib.hid (HG.out wr i hb.out)
      have HXW := Lib.hid (HX.out.below hb.out)
      by_cases hm : i = -1
      · subst hm
        have e1 : getS l (-1) = ⟨#[]⟩ := by unfold getS fullI; simp
        have e2 : fullI l (-1) = false := by unfold fullI; simp
        rw [e1, e2] at HG1
        go_wp2_with (go_at_call 15; refine HG1.out.mono ?_; rintro e w3 ⟨rfl, hb3⟩)
        have HB3 := Lib.hid (hb.out.trans (hb3.mono hb.out.size))
        go_roundw
        case rel => exact ⟨0, by omega, by omega, rfl, HB3⟩
        case measure => simp [intOf]; omega
      · obtain ⟨j, rfl⟩ : ∃ j : Nat, i = (j : Int) := ⟨i.toNat, by omega⟩
        rw [getS_nat, fullI_nat] at HG1
        have hd0 : decide ((0 : Int) ≤ (j : Int)) = true := by simp
        by_cases hj : j < N
        · have hjl : j < l.length := by rw [HN.out]; exact hj
          have hd1 : decide ((j : Int) < (N : Int)) = true := by simp; omega
          have hjN : (j : Int) < (N : Int) := by omega
          obtain ⟨b, c', e', hcc, _, _⟩ := HX.out.at hjl
          rw [HN.out] at e' hcc
          cases e'
          cases hs : slot l j with
          | none =>
            rw [hs] at HG1
            simp only [recOf, Option.getD_none, Option.isSome_none] at HG1
            have HS := Lib.hid hs
            clear hs
            go_wp2_with (go_at_call 15; refine HG1.out.mono ?_; rintro e w3 ⟨rfl, hb3⟩; have HB3 := Lib.hid (hb.out.trans (hb3.mono hb.out.size)); obtain ⟨b2, c2, e2, _, a1, a2⟩ := (HX.out.below HB3.out).at hjl; cases e2; rw [HS.out] at a1 a2; clear hb3)
            go_roundw
            case rel => exact ⟨(j : Int) + 1, by omega, by omega, rfl, HB3⟩
            case measure => simp [intOf]; omega
          | some r =>
            rw [hs] at HG1
            simp only [recOf, Option.getD_some, Option.isSome_some] at HG1
            have HS := Lib.hid hs
            clear hs
            have hrr : (r.toList == r.toList) = true := by simp
            go_wp2_with (go_at_call 15; refine HG1.out.mono ?_; rintro e w3 ⟨rfl, hb3⟩; have HB3 := Lib.hid (hb.out.trans (hb3.mono hb.out.size)); obtain ⟨b2, c2, e2, _, a1, a2⟩ := (HX.out.below HB3.out).at hjl; cases e2; rw [HS.out] at a1 a2; simp only [recOf, Option.getD_some, Option.isSome_some] at a1 a2; clear hb3)
            go_roundw
            case rel => exact ⟨(j : Int) + 1, by omega, by omega, rfl, HB3⟩
            case measure => simp [intOf]; omega
        · have hs : slot l j = none := slot_ge (by rw [HN.out]; omega)
          rw [hs] at HG1
          simp only [recOf, Option.getD_none, Option.isSome_none] at HG1
          have hd1 : decide ((j : Int) < (N : Int)) = false := by simp; omega
          clear hs
          go_wp2_with (go_at_call 15; refine HG1.out.mono ?_; rintro e w3 ⟨rfl, hb3⟩)
          have HB3 := Lib.hid (hb.out.trans (hb3.mono hb.out.size))
          go_roundw
          case rel => exact ⟨(j : Int) + 1, by omega, by omega, rfl, HB3⟩
          case measure => simp [intOf]; omega
    · have hd : decide (i ≤ (N : Int)) = false := decide_eq_false hend
      go_wp2_with fail
      go_ret
      exact ⟨rfl, hb.out⟩
end
end Go.Proofs.YtldkmkgkllgckaaDoor
