/- The number of bytes: the code's take, the document's value. -/
import Derived.Test.YtnjlhallkgacjaaSmall5
namespace Go.Proofs.Ytnjlhallkgacjaa
open Go.RowKit

/-- A number of 64 bits as an int. -/
def toI (x : Nat) : Int := if x < 9223372036854775808 then (x : Int) else (x : Int) - 18446744073709551616
theorem toI_small {x : Nat} (h : x < 9223372036854775808) : toI x = (x : Int) := by unfold toI; rw [if_pos h]
theorem toI_wrap {x : Nat} (h : x < 18446744073709551616) : IntKind.i64.wrap (x : Int) = toI x := by
  unfold toI
  rw [IntKind.wrap_i64]
  split <;> omega
theorem plus_or (a b : Nat) (h : b < 256) : a * 256 ||| b = a * 256 + b := by
  have := Nat.two_pow_add_eq_or_of_lt (i := 8) h a
  rw [show (2 : Nat) ^ 8 = 256 from rfl, Nat.mul_comm 256 a] at this
  exact this.symm
theorem or_byte0 (m c : Nat) (hm : m < 72057594037927936) (hc : c < 256) : bits .or .i64 (IntKind.i64.wrap ((m : Int) * 256)) (c : Int) = toI (m * 256 + c) := by
  show IntKind.i64.wrap ((BitVec.ofInt 64 (IntKind.i64.wrap ((m : Int) * 256)) ||| BitVec.ofInt 64 (c : Int)).toNat : Int) = _
  have e1 : (BitVec.ofInt 64 (IntKind.i64.wrap ((m : Int) * 256))).toNat = m * 256 := by
    rw [BitVec.toNat_ofInt, IntKind.wrap_i64]
    omega
  have e2 : (BitVec.ofInt 64 (c : Int)).toNat = c := by
    rw [BitVec.toNat_ofInt]
    omega
  rw [BitVec.toNat_or, e1, e2, plus_or m c hc]
  exact toI_wrap (by omega)
theorem or_byte (m c : Nat) (hm : m < 72057594037927936) (hc : c < 256) : bits .or .i64 (wrap64 ((m : Int) * 256)) (c : Int) = toI (m * 256 + c) := by
  rw [show wrap64 ((m : Int) * 256) = IntKind.i64.wrap ((m : Int) * 256) by unfold wrap64; exact (IntKind.wrap_i64 _).symm]
  exact or_byte0 m c hm hc
theorem val_take_succ (s : List Nat) (j : Nat) (h : j < s.length) : val (s.take (j + 1)) = val (s.take j) * 256 + s.getD j 0 := by
  rw [take_succ_getD s j h, val_snoc]
theorem val_take_lt (s : List Nat) (j k : Nat) (hd : ∀ x ∈ s, x < 256) (h : j ≤ k) : val (s.take j) < 256 ^ k :=
  Nat.lt_of_lt_of_le (val_lt _ (fun x hx => hd x (List.mem_of_mem_take hx))) (Nat.pow_le_pow_right (by omega) (by rw [List.length_take]; omega))
theorem getD_lt {s : List Nat} (hd : ∀ x ∈ s, x < 256) (i : Nat) : s.getD i 0 < 256 := by
  rw [List.getD_eq_getElem?_getD]
  cases e : s[i]? with
  | none => decide
  | some x => exact hd x (List.mem_of_getElem? e)
set_option maxHeartbeats 400000 in
theorem take_any5 (S : ByteArray) (s : List Nat) (w : World) (hS : IsS S s) (hl : s.length ≤ 8) :
    Calls Try.prog 42 #[.string S] w fun e w' => e = .returned (.int .i64 (toI (val s))) ∧ w = w' := by
  have HS := Lib.hid hS
  have hsz := hS.size
  obtain ⟨n, hn⟩ : ∃ n, s.length = n := ⟨_, rfl⟩
  rw [hn] at hsz hl
  have HN := Lib.hid hn
  have HD := Lib.hid hS.dig
  have HIX := Lib.hid hS.index
  obtain ⟨V, HV⟩ : ∃ V, Hid (toI (val s) = V) := ⟨_, Lib.hid rfl⟩
  rw [HV.out]
  clear hS hn
  go_enter Try.func42, Try.ntmps42
  go_wp2_with fail
  go_loop [3, 7] (fun nv iv => ∃ j : Nat, j ≤ n ∧ iv = .int .i64 (j : Int) ∧ nv = .int .i64 (toI (val (s.take j)))) (fun _ i => n - (intOf i).toNat)
  case atStart => exact ⟨0, by omega, by go_num, rfl⟩
  case round =>
    obtain ⟨j, hj, rfl, rfl⟩ := hrel
    by_cases hlt : j < n
    · have hix := HIX.out j (by rw [HN.out]; exact hlt)
      have hm : val (s.take j) < 72057594037927936 := val_take_lt s j 7 HD.out (by omega)
      have hc := getD_lt HD.out j
      have HNX : Hid (toI (val (s.take (j + 1))) = toI (val (s.take j) * 256 + s.getD j 0)) := Lib.hid (by rw [val_take_succ s j (by rw [HN.out]; exact hlt)])
      rw [toI_small (show val (s.take j) < 9223372036854775808 by omega)]
      generalize val (s.take j) = m at *
      generalize s.getD j 0 = c at *
      have hor := or_byte m c hm hc
      clear HIX
      go_wp2_with fail
      go_round
      case rel => exact ⟨j + 1, by omega, by go_num, by rw [HNX.out]⟩
      case measure => simp [intOf]; omega
    · obtain rfl : j = n := by omega
      have HE : Hid (toI (val (s.take j)) = V) := Lib.hid (by rw [List.take_of_length_le (by rw [HN.out]; omega)]; exact HV.out)
      go_wp2_with fail
      go_ret
      exact ⟨by rw [← HE.out]; rfl, rfl⟩
/-- What the document's value tells. -/
def valR (s : List Nat) : Int := if s.length = 8 ∧ 4611686018427387904 ≤ val s then -1 else (val s : Int)
set_option maxHeartbeats 400000 in
theorem value_any (S : ByteArray) (s : List Nat) (w : World) (hS : IsS S s) (hl : s.length = 4 ∨ s.length = 8) :
    Calls Try.prog 29 #[.string S] w fun e w' => e = .returned (.int .i64 (valR s)) ∧ w = w' := by
  have HS := Lib.hid hS
  have hsz := hS.size
  have HVR : Hid (∀ j, j < s.length → 18014398509481984 ≤ val (s.take j) → valR s = -1) := Lib.hid (fun j hj h => by
    have h7 : j = 7 := by
      rcases Nat.lt_or_ge j 7 with h1 | h1
      · have := val_take_lt s j 6 hS.dig (by omega); omega
      · omega
    subst h7
    have h2 := val_take_succ s 7 hj
    rw [List.take_of_length_le (by omega)] at h2
    unfold valR
    rw [if_pos ⟨by omega, by omega⟩])
  have HVS : Hid ((∀ j, j < s.length → val (s.take j) < 18014398509481984) → valR s = (val s : Int)) := Lib.hid (fun h => by
    unfold valR
    rw [if_neg]
    intro h2
    have h3 := h 7 (by omega)
    have h4 := val_take_succ s 7 (by omega)
    rw [List.take_of_length_le (by omega)] at h4
    have h5 := getD_lt hS.dig 7
    omega)
  obtain ⟨n, hn⟩ : ∃ n, s.length = n := ⟨_, rfl⟩
  rw [hn] at hsz hl HVR HVS
  have HN := Lib.hid hn
  have HD := Lib.hid hS.dig
  have HIX := Lib.hid hS.index
  generalize valR s = V at *
  clear hS hn
  go_enter Try.func29, Try.ntmps29
  go_wp2_with fail
  go_loop [3, 4] (fun nv iv => ∃ j : Nat, j ≤ n ∧ iv = .int .i64 (j : Int) ∧ nv = .int .i64 (val (s.take j) : Nat) ∧ ∀ i, i < j → val (s.take i) < 18014398509481984) (fun _ i => n - (intOf i).toNat)
  case atStart => exact ⟨0, by omega, by go_num, rfl, fun i hi => by omega⟩
  case round =>
    obtain ⟨j, hj, rfl, rfl, hB⟩ := hrel
    by_cases hlt : j < n
    · by_cases hbig : val (s.take j) < 18014398509481984
      · have hix := HIX.out j (by rw [HN.out]; exact hlt)
        have hc := getD_lt HD.out j
        have HNX : Hid (val (s.take (j + 1)) = val (s.take j) * 256 + s.getD j 0) := Lib.hid (by rw [val_take_succ s j (by rw [HN.out]; exact hlt)])
        have HBB : Hid (∀ i, i < j + 1 → val (s.take i) < 18014398509481984) := Lib.hid (fun i hi => by
          rcases Nat.lt_or_ge i j with h1 | h1
          · exact hB i h1
          · rw [show i = j by omega]; exact hbig)
        generalize val (s.take j) = m at *
        generalize s.getD j 0 = c at *
        have hle : ¬ ((18014398509481984 : Int) ≤ (m : Int)) := by omega
        clear HIX hB
        go_wp2_with fail
        go_round
        case rel => exact ⟨j + 1, by omega, by go_num, by rw [HNX.out]; rfl, HBB.out⟩
        case measure => simp [intOf]; omega
      · have HE := Lib.hid (HVR.out j hlt (by omega))
        generalize val (s.take j) = m at *
        have hle : (18014398509481984 : Int) ≤ (m : Int) := by omega
        clear HIX hB HVR HVS
        go_wp2_with fail
        go_ret
        exact ⟨by rw [HE.out]; rfl, rfl⟩
    · obtain rfl : j = n := by omega
      have HE : Hid ((val (s.take j) : Int) = V) := Lib.hid (by rw [List.take_of_length_le (by rw [HN.out]; omega)]; exact (HVS.out hB).symm)
      clear hB HVR HVS HIX
      go_wp2_with fail
      go_ret
      exact ⟨by rw [← HE.out]; rfl, rfl⟩
end Go.Proofs.Ytnjlhallkgacjaa
