/- The loops of package lex over texts: what they return. -/
import Derived.Test.YtjpbbooeihdnfaaDoorLEnv
set_option maxRecDepth 20000
set_option linter.unusedSimpArgs false
namespace Go.Proofs.YtjpbbooeihdnfaaDoor
open Go.RowKit

def hbV (L : List UInt8) : Int := match hiB L with | some h => (h : Int) | none => -1
theorem hiB_at {L : List UInt8} {i : Nat} (hi : i < L.length) (h : 128 ≤ (L.getD i 0).toNat) (hb : ∀ j, j < i → (L.getD j 0).toNat < 128) : hiB L = some i := by
  unfold hiB
  rw [List.findIdx?_eq_some_iff_getElem]
  refine ⟨hi, ?_, fun j hj => ?_⟩
  · rw [List.getD_eq_getElem?_getD, List.getElem?_eq_getElem hi] at h
    simpa using h
  · have := hb j hj
    rw [List.getD_eq_getElem?_getD, List.getElem?_eq_getElem (by omega)] at this
    simpa using this
theorem hiB_none {L : List UInt8} (hb : ∀ j, j < L.length → (L.getD j 0).toNat < 128) : hiB L = none := by
  unfold hiB
  rw [List.findIdx?_eq_none_iff]
  intro x hx
  obtain ⟨j, hj, rfl⟩ := List.getElem_of_mem hx
  have := hb j hj
  rw [List.getD_eq_getElem?_getD, List.getElem?_eq_getElem hj] at this
  simpa using this
set_option maxHeartbeats 800000 in
theorem highByte_any (S : ByteArray) (w : World) (hS : S.size ≤ 5000) : Calls Tryd.prog 29 #[.string S] w fun e w' => e = .returned (.int .i64 (hbV (tl S))) ∧ w = w' := by
  have HL := Lib.hid (tl_len S)
  go_enter Tryd.func29, Tryd.ntmps29
  go_wp2_with fail
  go_loop [6] (fun iv => ∃ i : Nat, iv = .int .i64 (i : Int) ∧ i ≤ S.size ∧ Hid (∀ j, j < i → ((tl S).getD j 0).toNat < 128)) (fun iv => S.size - (intOf iv).toNat)
  case atStart => exact ⟨0, rfl, Nat.zero_le _, Lib.hid fun j hj => absurd hj (Nat.not_lt_zero j)⟩
  case round =>
    obtain ⟨i, rfl, hi, HI⟩ := hrel
    by_cases hlt : i < S.size
    · have hix := idx_any S i hlt
      obtain ⟨c, hc⟩ : ∃ c, ((tl S).getD i 0).toNat = c := ⟨_, rfl⟩
      rw [hc] at hix
      have HC := Lib.hid hc
      clear hc
      have hcc : decide ((128 : Int) ≤ (c : Int)) = decide (128 ≤ c) := by rw [decide_eq_decide]; omega
      by_cases h8 : 128 ≤ c
      · have HR : Hid (hbV (tl S) = (i : Int)) := by
          unfold Hid hbV
          rw [hiB_at (by rw [HL.out]; exact hlt) (by rw [HC.out]; exact h8) HI.out]
        rw [decide_eq_true h8] at hcc
        clear h8
        go_wp2_with fail
        go_ret
        exact ⟨ret_int HR.out.symm, rfl⟩
      · have HI2 : Hid (∀ j, j < i + 1 → ((tl S).getD j 0).toNat < 128) := Lib.hid fun j hj => by
          by_cases e : j = i
          · rw [e, HC.out]; omega
          · exact HI.out j (by omega)
        rw [decide_eq_false h8] at hcc
        clear h8
        go_wp2_with fail
        go_round
        case rel => exact ⟨i + 1, by go_num, by omega, HI2⟩
        case measure => simp [intOf]; omega
    · have HR : Hid (hbV (tl S) = -1) := by
        unfold Hid hbV
        rw [hiB_none fun j hj => HI.out j (by rw [HL.out] at hj; omega)]
      go_wp2_with fail
      go_ret
      exact ⟨ret_int HR.out.symm, rfl⟩
theorem lineSize_any (S : ByteArray) (w : World) (hE : Env w) (hS : S.size ≤ 5000) : Calls Tryd.prog 16 #[.string S] w fun e w' => e = .returned (.int .i64 (lineSz (tl S) : Int)) ∧ Below w.heap.size w w' := by
  obtain ⟨m, hm⟩ := hE.mx
  have hcut := fun w (hm : w.cell? ⟨2, 0, none⟩ = some (.int .i64 m)) => Tryd.strings_Cut S ⟨#[10]⟩ m w (by omega) hm
  rw [show (⟨#[10]⟩ : ByteArray).data.toList = [10] from rfl] at hcut
  obtain ⟨A, hA⟩ : ∃ A, Lib.cut S.data.toList [10] = A := ⟨_, rfl⟩
  have HA : Hid (A.1.length = lineSz (tl S)) := by
    unfold Hid lineSz pre
    rw [← hA, (cut_one _ _).1]
  rw [hA] at hcut
  obtain ⟨A1, A2, A3⟩ := A
  have HC := Lib.hid hcut
  have hsz : ((⟨A1.toArray⟩ : ByteArray).size : Int) = (A1.length : Int) := rfl
  clear hcut hA
  go_enter Tryd.func16, Tryd.ntmps16
  go_wp2_with (go_at_call 30; refine (HC.out _ hm).mono ?_; rintro e w' ⟨rfl, n, rfl⟩)
  go_ret
  exact ⟨by rw [← HA.out]; rfl, below_drewN (Below.refl _ _) _⟩
end Go.Proofs.YtjpbbooeihdnfaaDoor
