/- A table has just these names. -/
import Derived.Test.YtnagdjgicphknaaDoorHelps
set_option linter.unusedSimpArgs false
set_option maxRecDepth 20000
namespace Go.Proofs.YtnagdjgicphknaaDoor
open Go.RowKit

theorem below_drewN {B : Nat} {a w : World} (h : Below B a w) (n : Nat) : Below B a (w.drewN n) := h.trans ⟨rfl, rfl, rfl, Nat.le_refl _, fun _ _ => rfl⟩
section
variable {w : World} {g : Nat} {F : List Nat} {v : Value} {L : List ByteArray}
theorem nameM_get {L : List ByteArray} {i : Nat} {S : ByteArray} (h : L[i]? = some S) : nameM L (i : Int) = S := by
  unfold nameM
  rw [if_pos (by omega), Int.toNat_natCast, h]; rfl
theorem nameM_neg (L : List ByteArray) : nameM L (-1) = ⟨#[]⟩ := by unfold nameM; rw [if_neg (by omega)]
theorem nameM_len (L : List ByteArray) : nameM L (L.length : Int) = ⟨#[]⟩ := by unfold nameM; rw [if_pos (by omega), Int.toNat_natCast, List.getElem?_eq_none (Nat.le_refl _)]; rfl
set_option maxHeartbeats 800000 in
theorem same_any (h : Pair w g F v L) (hl : L.length ≤ 1000) : Calls Tryd.prog 13 #[.pointer (some ⟨g, 0, none⟩), v] w fun e w' => e = .returned (.bool true) ∧ Below w.heap.size w w' := by
  have HLEN := Lib.hid (len_any h.tb)
  have HNM : Hid (∀ w1, Below w.heap.size w w1 → ∀ i, Calls Tryd.prog 16 #[.pointer (some ⟨g, 0, none⟩), .int .i64 i] w1 fun e w' => e = .returned (.string (nameM L i)) ∧ w1 = w') := Lib.hid (fun w1 hb i => name_any (h.tb.below hb) i)
  have HR : Hid (∀ w1, Below w.heap.size w w1 → Rf w1 v L) := Lib.hid (fun w1 hb => h.rf.below hb)
  have n1 := nameM_neg L
  have n2 := nameM_len L
  obtain ⟨q, c, rfl⟩ := h.rf.form
  clear h
  obtain ⟨N, HN⟩ : ∃ N, Hid (L.length = N) := ⟨_, Lib.hid rfl⟩
  rw [HN.out] at hl HLEN HR n2 ⊢
  have HX : Hid (∀ w1 i, Below w.heap.size w w1 → (i = -1 ∨ i = (N : Int)) → Calls Tryd.prog 16 #[.pointer (some ⟨g, 0, none⟩), .int .i64 i] w1 fun e w' => e = .returned (.string ⟨#[]⟩) ∧ w1 = w') := Lib.hid (fun w1 i hb hi => by
    have := HNM.out w1 hb i
    rcases hi with rfl | rfl
    · rwa [n1] at this
    · rwa [n2] at this)
  clear n1 n2
  go_enter Tryd.func13, Tryd.ntmps13
  go_wp2_with (refine HLEN.out.mono ?_; rintro e w1 ⟨rfl, rfl⟩)
  go_loopw [5] (fun iv wr => ∃ i : Nat, i ≤ N ∧ iv = .int .i64 (i : Int) ∧ Hid (Below w.heap.size w wr)) (fun iv _ => N - (intOf iv).toNat)
  case atStart => exact ⟨0, by omega, by go_num, Lib.hid (Below.refl _ _)⟩
  case round =>
    obtain ⟨i, hi, rfl, HB⟩ := hrel
    by_cases hlt : i < N
    · obtain ⟨S, hS⟩ : ∃ S, L[i]? = some S := ⟨_, List.getElem?_eq_getElem (by rw [HN.out]; exact hlt)⟩
      have HNi : Hid (∀ j, Calls Tryd.prog 16 #[.pointer (some ⟨g, 0, none⟩), .int .i64 (i : Int)] (wr.drewN j) fun e w' => e = .returned (.string S) ∧ wr.drewN j = w') := Lib.hid (fun j => by have := HNM.out _ (below_drewN HB.out j) (i : Int); rwa [nameM_get hS] at this)
      obtain ⟨b, c', e, hc, x1⟩ := (HR.out _ HB.out).at hS
      rw [HN.out] at e hc
      cases e
      have hiN : (i : Int) < (N : Int) := by omega
      have hbs : (S.toList == S.toList) = true := by simp
      clear hS
      go_wp2_with fail
      go_quiet ((go_at_call 16; exact Calls.quiet_of_same ((HNi.out _).mono fun _ _ h => ⟨h.1, h.2.symm⟩)))
      go_wp2_with fail
      go_roundw
      case rel => exact ⟨i + 1, by omega, by go_num, Lib.hid (below_drewN HB.out _)⟩
      case measure => simp [intOf]; omega
    · obtain rfl : i = N := by omega
      go_wp2_with (refine (HX.out _ _ HB.out (by first | exact .inl rfl | exact .inr rfl)).mono ?_; rintro e w1 ⟨rfl, rfl⟩)
      go_ret
      exact ⟨rfl, HB.out⟩
end
end Go.Proofs.YtnagdjgicphknaaDoor
