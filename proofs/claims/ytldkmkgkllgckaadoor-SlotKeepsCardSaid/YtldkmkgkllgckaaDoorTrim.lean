/- What is trimmed of zeros. -/
import Derived.Test.YtldkmkgkllgckaaDoorPMdl
import Derived.Deep.QuietTactic
import Derived.BigQuiet
import Derived.Deep.RegionWith
set_option linter.unusedSimpArgs false
namespace Go.Proofs.YtldkmkgkllgckaaDoor
open Go.RowKit

def strLen : Value → Nat
  | .string S => S.size
  | _ => 0
theorem extract_size (S : ByteArray) (a b : Nat) (h1 : a ≤ b) (h2 : b ≤ S.size) : (S.extract a b).size = b - a := by
  rw [← nums_len, nums_extract, List.length_take, List.length_drop, nums_len]; omega
theorem byteAt_extract (S : ByteArray) (a b i : Nat) (h : i < b - a) : byteAt (S.extract a b) i = byteAt S (a + i) := by
  unfold byteAt
  rw [nums_extract, List.getD_eq_getElem?_getD, List.getElem?_take_of_lt h, List.getElem?_drop, ← List.getD_eq_getElem?_getD]
/-- Zeros cut off behind. -/
structure TrR (S T : ByteArray) : Prop where
  le : T.size ≤ S.size
  same : ∀ j, j < T.size → byteAt T j = byteAt S j
  zero : ∀ j, T.size ≤ j → j < S.size → byteAt S j = 0
  last : 0 < T.size → byteAt T (T.size - 1) ≠ 0
/-- Zeros cut off ahead. -/
structure TrL (S T : ByteArray) : Prop where
  le : T.size ≤ S.size
  zero : ∀ j, j + T.size < S.size → byteAt S j = 0
theorem TrR.nil_ {S : ByteArray} (h : S.size = 0) : TrR S S := ⟨Nat.le_refl _, fun _ _ => rfl, fun j h1 h2 => by omega, fun h2 => by omega⟩
set_option maxHeartbeats 800000 in
theorem trimR_any (S : ByteArray) (w : World) (hS : S.size ≤ 512) : Calls Tryd.prog 28 #[.string S, .int .u8 0] w fun e w' => (∃ T, e = .returned (.string T) ∧ TrR S T) ∧ w = w' := by
  go_enter Tryd.func28, Tryd.ntmps28
  go_wp2_with fail
  go_loop [0] (fun v => ∃ (T : ByteArray) (m : Nat), v = .string T ∧ Hid (T.size = m ∧ m ≤ S.size ∧ (∀ j, j < m → byteAt T j = byteAt S j) ∧ (∀ j, m ≤ j → j < S.size → byteAt S j = 0))) (fun v => strLen v)
  case atStart => exact ⟨S, S.size, rfl, Lib.hid ⟨rfl, Nat.le_refl _, fun _ _ => rfl, fun j h1 h2 => by omega⟩⟩
  case round =>
    obtain ⟨T, m, rfl, hH⟩ := hrel
    have hm := hH.out.1
    have hm2 : m ≤ 512 := Nat.le_trans hH.out.2.1 hS
    rcases Nat.eq_zero_or_pos m with h0 | h0
    · subst h0
      go_wp2_with fail
      go_ret
      exact ⟨⟨T, rfl, by rw [hH.out.1]; exact hH.out.2.1, fun j hj => hH.out.2.2.1 j (by rw [← hH.out.1]; exact hj), fun j h1 h2 => hH.out.2.2.2 j (by rw [← hH.out.1]; exact h1) h2, fun h => by have := hH.out.1; omega⟩, rfl⟩
    · obtain ⟨t, rfl⟩ : ∃ t, m = t + 1 := ⟨m - 1, by omega⟩
      have hix := index_any T t (by omega)
      have HB : Hid (byteAt T t = byteAt S t) := Lib.hid (hH.out.2.2.1 t (Nat.lt_succ_self t))
      have HT : Hid (T.size = t + 1) := Lib.hid hm
      have htz : (T.size : Int) - 1 = (t : Int) := by omega
      have hpos : decide ((0 : Int) < (T.size : Int)) = true := by simp; omega
      have hlt : (t : Int) < (T.size : Int) := by omega
      have hle : t ≤ T.size := by omega
      clear hm
      by_cases hz : byteAt T t = 0
      · rw [hz] at hix HB
        clear hz
        go_wp2_with fail
        go_round
        case rel =>
          refine ⟨_, t, rfl, Lib.hid ⟨extract_size T 0 t (Nat.zero_le _) hle, by have := hH.out.2.1; omega, fun j hj => ?_, fun j h1 h2 => ?_⟩⟩
          · rw [byteAt_extract T 0 t j (by omega), Nat.zero_add]
            exact hH.out.2.2.1 j (by omega)
          · rcases Nat.lt_or_ge t j with h3 | h3
            · exact hH.out.2.2.2 j h3 h2
            · obtain rfl : j = t := by omega
              exact HB.out.symm
        case measure =>
          have := extract_size T 0 t (Nat.zero_le _) hle
          simp [strLen]; omega
      · have hbz : ((byteAt T t : Int) == 0) = false := by simp; omega
        have HZ := Lib.hid hz
        clear hz
        go_wp2_with fail
        go_ret
        exact ⟨⟨T, rfl, by rw [HT.out]; exact hH.out.2.1, fun j hj => hH.out.2.2.1 j (by rw [← HT.out]; exact hj), fun j h1 h2 => hH.out.2.2.2 j (by rw [← HT.out]; exact h1) h2, fun _ => by rw [HT.out, Nat.add_sub_cancel]; exact HZ.out⟩, rfl⟩
set_option maxHeartbeats 800000 in
theorem trimL_any (S : ByteArray) (w : World) (hS : S.size ≤ 512) : Calls Tryd.prog 27 #[.string S, .int .u8 0] w fun e w' => (∃ T, e = .returned (.string T) ∧ TrL S T ∧ (0 < T.size → byteAt T 0 ≠ 0)) ∧ w = w' := by
  go_enter Tryd.func27, Tryd.ntmps27
  go_wp2_with fail
  go_loop [0] (fun v => ∃ (T : ByteArray) (m k : Nat), v = .string T ∧ Hid (T.size = m ∧ m + k = S.size ∧ (∀ j, j < m → byteAt T j = byteAt S (k + j)) ∧ (∀ j, j < k → byteAt S j = 0))) (fun v => strLen v)
  case atStart => exact ⟨S, S.size, 0, rfl, Lib.hid ⟨rfl, rfl, fun j _ => by rw [Nat.zero_add], fun j h1 => absurd h1 (Nat.not_lt_zero j)⟩⟩
  case round =>
    obtain ⟨T, m, k, rfl, hH⟩ := hrel
    have hm := hH.out.1
    have hm2 : m ≤ 512 := by have := hH.out.2.1; omega
    have HF : Hid (TrL S T) := Lib.hid ⟨by have := hH.out.2.1; omega, fun j hj => hH.out.2.2.2 j (by have := hH.out.2.1; omega)⟩
    rcases Nat.eq_zero_or_pos m with h0 | h0
    · subst h0
      go_wp2_with fail
      go_ret
      exact ⟨⟨T, rfl, HF.out, fun h => by have := hH.out.1; omega⟩, rfl⟩
    · obtain ⟨t, rfl⟩ : ∃ t, m = t + 1 := ⟨m - 1, by omega⟩
      have hix : ∀ w, (Instr.index 9 (.string T) (.int .i64 0)).run Tryd.prog w = .ok (.int .u8 (byteAt T 0 : Int)) w := index_any T 0 (by omega)
      have HB : Hid (byteAt T 0 = byteAt S k) := Lib.hid (hH.out.2.2.1 0 (by omega))
      have HT : Hid (T.size = t + 1) := Lib.hid hm
      have hpos : decide ((0 : Int) < (T.size : Int)) = true := by simp; omega
      have hlt : (0 : Int) < (T.size : Int) := by omega
      have hle : 1 ≤ T.size := by omega
      clear hm
      by_cases hz : byteAt T 0 = 0
      · have hix0 : ∀ w, (Instr.index 9 (.string T) (.int .i64 0)).run Tryd.prog w = .ok (.int .u8 0) w := fun w => by have := hix w; rw [hz] at this; exact this
        rw [hz] at HB
        clear hix
        clear hz
        go_wp2_with fail
        go_round
        case rel =>
          refine ⟨_, t, k + 1, rfl, Lib.hid ⟨?_, by have := hH.out.2.1; omega, fun j hj => ?_, fun j h1 => ?_⟩⟩
          · rw [extract_size T 1 T.size hle (Nat.le_refl _), HT.out]; rfl
          · rw [byteAt_extract T 1 T.size j (by have := HT.out; omega), hH.out.2.2.1 (1 + j) (by omega)]
            congr 1; omega
          · rcases Nat.lt_or_ge j k with h3 | h3
            · exact hH.out.2.2.2 j h3
            · obtain rfl : j = k := by omega
              exact HB.out.symm
        case measure =>
          have h1 := extract_size T 1 T.size hle (Nat.le_refl _)
          have h2 := HT.out
          simp [strLen]; omega
      · have hbz : ((byteAt T 0 : Int) == 0) = false := by simp; omega
        have HZ := Lib.hid hz
        clear hz
        go_wp2_with fail
        go_ret
        exact ⟨⟨T, rfl, HF.out, fun _ => HZ.out⟩, rfl⟩
/-- All zeros. -/
def allZ (S : ByteArray) : Prop := ∀ j, j < S.size → byteAt S j = 0
theorem trim_zero {S T U : ByteArray} (h : TrR S T) (k : TrL T U) : U.size = 0 ↔ allZ S := by
  constructor
  · intro hu j hj
    rcases Nat.lt_or_ge j T.size with h1 | h1
    · exfalso
      have h2 := k.zero (T.size - 1) (by omega)
      exact h.last (by omega) h2
    · exact h.zero j h1 hj
  · intro hz
    have : T.size = 0 := by
      rcases Nat.eq_zero_or_pos T.size with h0 | h0
      · exact h0
      · exfalso
        have h1 := h.last h0
        rw [h.same _ (by omega)] at h1
        exact h1 (hz _ (by have := h.le; omega))
    have := k.le
    omega
set_option maxRecDepth 20000 in
set_option maxHeartbeats 1600000 in
theorem trim_any (S : ByteArray) (w : World) (hS : S.size ≤ 512) : Calls Tryd.prog 21 #[.string S, .string ⟨#[0]⟩] w fun e w' => (∃ U, e = .returned (.string U) ∧ (U.size = 0 ↔ allZ S)) ∧ Below w.heap.size w w' := by
  rcases Nat.eq_zero_or_pos S.size with h0 | h0
  · have hz : Hid (S.size = 0 ↔ allZ S) := Lib.hid ⟨fun _ j hj => by omega, fun _ => h0⟩
    have hS0 : S = ⟨#[]⟩ := nums_inj (by
      have h1 : (nums S).length = 0 := by rw [nums_len, h0]
      rw [List.length_eq_zero_iff.1 h1]; rfl)
    subst hS0
    go_enter Tryd.func21, Tryd.ntmps21
    go_wp2_with fail
    go_ret
    exact ⟨⟨_, rfl, hz.out⟩, Below.refl _ _⟩
  · have HR := Lib.hid (trimR_any S · hS)
    have hne : S.toList.isEmpty = false := by
      rw [Go.Lib.toList_data]
      cases e : S.data.toList with
      | nil =>
        have h2 : S.data.toList.length = S.size := by rw [Array.length_toList]; rfl
        rw [e] at h2
        simp at h2
        omega
      | cons x l => rfl
    have hix : ∀ w, (Instr.index 9 (.string ⟨#[0]⟩) (.int .i64 0)).run Tryd.prog w = .ok (.int .u8 0) w := index_any ⟨#[0]⟩ 0 (by decide)
    go_enter Tryd.func21, Tryd.ntmps21
    go_wp2_with fail
    go_region_with (first
      | (go_at_call 28; refine (HR.out _).mono ?_; rintro e w1 ⟨⟨T1, rfl, h1⟩, rfl⟩; have HT1 := Lib.hid h1; have HL := Lib.hid (trimL_any T1 · (Nat.le_trans h1.le hS)); clear h1)
      | (go_at_call 27; refine (HL.out _).mono ?_; rintro e w1 ⟨⟨U, rfl, h1, _⟩, rfl⟩; have HU := Lib.hid h1; clear h1))
    all_goals
      go_wp2_with fail
      go_ret
      exact ⟨⟨U, rfl, trim_zero HT1.out HU.out⟩, by first | exact Below.refl _ _ | exact (Below.refl _ _).drew⟩
end Go.Proofs.YtldkmkgkllgckaaDoor
