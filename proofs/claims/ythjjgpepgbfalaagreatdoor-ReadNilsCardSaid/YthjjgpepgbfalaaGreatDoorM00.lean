/- Texts XNDig to XLMdl of this seat, laid into one. -/
import Derived.Test.YthjjgpepgbfalaaGreatDoorProg
import Derived.WalkKit
import Derived.WalkSpells
import Derived.WalkLawsBesides
import Derived.BigGuardPart
import Derived.Lib.Hide
import Derived.BigQuiet
import Derived.Deep.QuietTactic
import Derived.Lib.Bytealg
import Derived.Lib.IndexMore
set_option linter.unusedVariables false
set_option linter.unusedSimpArgs false
set_option linter.constructorNameAsVariable false
section
/-! Plain facts on digits and texts of numbers. -/
namespace Go.Proofs.YthjjgpepgbfalaaGreatDoor.Lx

/-- The digits of u to the base b, the lowest first, one or more (f: how many at most). -/
def bd (b : Nat) : Nat → Nat → List Nat
  | 0, _ => [0]
  | f + 1, u => if u < b then [u] else u % b :: bd b f (u / b)
/-- A digit's byte. -/
def ch (d : Nat) : UInt8 := if d < 10 then UInt8.ofNat (48 + d) else UInt8.ofNat (87 + d)
theorem bd_big {b f u : Nat} (h : b ≤ u) : bd b (f + 1) u = u % b :: bd b f (u / b) := by rw [bd, if_neg (by omega)]
theorem bd_small {b f u : Nat} (h : u < b) (hf : u < 2 ^ f) : bd b f u = [u] := by
  rcases f with _ | f
  · have : u = 0 := by simpa using hf
    subst this; rfl
  · rw [bd, if_pos h]
theorem half {b f u : Nat} (hb : 2 ≤ b) (hu : u < 2 ^ (f + 1)) : u / b < 2 ^ f := by
  have h1 : u / b ≤ u / 2 := Nat.div_le_div_left hb (by omega)
  rw [Nat.pow_succ] at hu
  omega
theorem fuel_pos {b f u : Nat} (hb : 2 ≤ b) (h : b ≤ u) (hu : u < 2 ^ f) : ∃ g, f = g + 1 ∧ g ≠ 0 := by
  rcases f with _ | f
  · simp at hu; omega
  · refine ⟨f, rfl, ?_⟩
    rintro rfl
    simp at hu; omega

/-- What the head of a loop that takes digits off knows. -/
structure Digs (b u v f : Nat) (ds : List Nat) : Prop where
  eq : bd b 64 u = ds ++ bd b f v
  fuel : ds.length + f = 64
  lt : v < 2 ^ f
  dig : ∀ d ∈ ds, d < b
  pos : f ≠ 0
theorem Digs.start {b u : Nat} (h : u < 2 ^ 64) : Digs b u u 64 [] := ⟨rfl, rfl, h, by simp, by decide⟩
theorem Digs.next {b u v f : Nat} {ds : List Nat} (h : Digs b u v f ds) (hb : 2 ≤ b) (hv : b ≤ v) : ∃ g, f = g + 1 ∧ g ≠ 0 ∧ Digs b u (v / b) g (ds ++ [v % b]) := by
  obtain ⟨g, rfl, hg⟩ := fuel_pos hb hv h.lt
  refine ⟨g, rfl, hg, ⟨?_, ?_, half hb h.lt, ?_, hg⟩⟩
  · rw [h.eq, bd_big hv]; simp
  · have := h.fuel; simp; omega
  · intro d hd
    rcases List.mem_append.1 hd with h1 | h1
    · exact h.dig d h1
    · have : d = v % b := by simpa using h1
      rw [this]; exact Nat.mod_lt _ (by omega)
theorem Digs.done {b u v f : Nat} {ds : List Nat} (h : Digs b u v f ds) (hv : v < b) : bd b 64 u = ds ++ [v] := by
  rw [h.eq, bd_small hv h.lt]
theorem Digs.room {b u v f : Nat} {ds : List Nat} (h : Digs b u v f ds) (hb : 2 ≤ b) (hv : b ≤ v) : ds.length + 1 ≤ 63 := by
  obtain ⟨g, hg, h0⟩ := fuel_pos hb hv h.lt
  have := h.fuel
  omega
/-- What a byte stands for; 99: it is no digit. -/
def dgN (c : Nat) : Nat := if 48 ≤ c ∧ c ≤ 57 then c - 48 else if 97 ≤ c ∧ c ≤ 102 then c - 87 else if 65 ≤ c ∧ c ≤ 70 then c - 55 else 99
def dgC (c : UInt8) : Nat := dgN c.toNat
def chG (d : Nat) : UInt8 := if d < 10 then UInt8.ofNat (48 + d) else UInt8.ofNat (55 + d)
theorem dg_all : ∀ c, c < 256 → ∀ k, k < 16 → (dgN c = k ↔ (c = (ch k).toNat ∨ c = (chG k).toNat)) := by decide +kernel
/-- The value of digits' bytes, the highest first. -/
def valT (b : Nat) (l : List UInt8) : Nat := l.foldl (fun v c => v * b + dgC c) 0
def okT (b : Nat) (l : List UInt8) : Bool := l.all fun c => decide (dgC c < b)
theorem valT_snoc (b : Nat) (l : List UInt8) (c : UInt8) : valT b (l ++ [c]) = valT b l * b + dgC c := by unfold valT; rw [List.foldl_append]; rfl
theorem okT_snoc (b : Nat) (l : List UInt8) (c : UInt8) : okT b (l ++ [c]) = (okT b l && decide (dgC c < b)) := by unfold okT; simp

/-- A text's sign and what is behind it. -/
def cutG : List UInt8 → Int
  | 45 :: _ => -1
  | _ => 1
def cutR : List UInt8 → List UInt8
  | 45 :: t => t
  | 43 :: t => t
  | l => l

end Go.Proofs.YthjjgpepgbfalaaGreatDoor.Lx
end
section
/-! Checked sums and products of numbers. -/
namespace Go.Proofs.YthjjgpepgbfalaaGreatDoor.Lx
open Go.RowKit

/-- Is it a number of 64 bits? -/
def fitB (n : Int) : Bool := decide (-9223372036854775808 ≤ n ∧ n ≤ 9223372036854775807)
/-- The number, or 0 where it doesn't fit. -/
def fitV (n : Int) : Int := if fitB n = true then n else 0
def Is64 (n : Int) : Prop := -9223372036854775808 ≤ n ∧ n ≤ 9223372036854775807
theorem fitB_yes {n : Int} (h : Is64 n) : fitB n = true := decide_eq_true h
theorem fitB_no {n : Int} (h : ¬ Is64 n) : fitB n = false := decide_eq_false h
theorem fitV_yes {n : Int} (h : Is64 n) : fitV n = n := if_pos (fitB_yes h)
theorem fitV_no {n : Int} (h : ¬ Is64 n) : fitV n = 0 := by unfold fitV; rw [fitB_no h]; rfl
theorem ret_yes {x n : Int} (h : Is64 n) (hx : x = n) : Ending.returned (.tuple #[.int .i64 x, .bool true]) = .returned (.tuple #[.int .i64 (fitV n), .bool (fitB n)]) := by rw [hx, fitV_yes h, fitB_yes h]
theorem ret_no {n : Int} (h : ¬ Is64 n) : Ending.returned (.tuple #[.int .i64 0, .bool false]) = .returned (.tuple #[.int .i64 (fitV n), .bool (fitB n)]) := by rw [fitV_no h, fitB_no h]
set_option maxHeartbeats 400000 in
theorem add_any (a b : Int) (w : World) (h1 : -9223372036854775808 ≤ a) (h2 : a ≤ 9223372036854775807) (h3 : -9223372036854775808 ≤ b) (h4 : b ≤ 9223372036854775807) :
    Calls Tryz.prog 149 #[.int .i64 a, .int .i64 b] w fun e w' => e = .returned (.tuple #[.int .i64 (fitV (a + b)), .bool (fitB (a + b))]) ∧ w = w' := by
  by_cases ha : a < 0 <;> by_cases hb : b < 0 <;> by_cases hs : wrap64 (a + b) < 0
  all_goals
    go_enter Tryz.func149, Tryz.ntmps149
    go_wp2
  all_goals go_ret2
  all_goals refine ⟨?_, rfl⟩
  all_goals first
    | exact ret_yes (by unfold Is64; unfold wrap64 at hs; omega) rfl
    | exact ret_no (by unfold Is64; unfold wrap64 at hs; omega)
    | exact ret_yes (by unfold Is64; unfold wrap64 at hs; omega) (by unfold wrap64; unfold wrap64 at hs; omega)
theorem tdiv_bd (a b : Int) (hb : b ≠ 0) (h1 : -9223372036854775808 ≤ a) (h2 : a ≤ 9223372036854775807) (h : ¬ (a = -9223372036854775808 ∧ b = -1)) : -9223372036854775808 ≤ a.tdiv b ∧ a.tdiv b ≤ 9223372036854775807 := by
  have e : (a.tdiv b).natAbs = a.natAbs / b.natAbs := Int.natAbs_tdiv a b
  have hle : a.natAbs / b.natAbs ≤ a.natAbs := Nat.div_le_self _ _
  by_cases hb1 : b.natAbs = 1
  · have : b = 1 ∨ b = -1 := by omega
    rcases this with rfl | rfl
    · rw [Int.tdiv_one]; omega
    · rw [Int.tdiv_neg, Int.tdiv_one]; omega
  · have : a.natAbs / b.natAbs ≤ a.natAbs / 2 := Nat.div_le_div_left (by omega) (by omega)
    omega
theorem tmod_bd (a b : Int) (hb : b ≠ 0) : (a.tmod b).natAbs < b.natAbs := by
  rw [Int.natAbs_tmod]; exact Nat.mod_lt _ (by omega)
/-- Where a product wraps and the quotient still fits, the product fitted. -/
theorem mul_back {a b p : Int} (hb : b ≠ 0) (h1 : -9223372036854775808 ≤ b) (h2 : b ≤ 9223372036854775807) (hp : p = wrap64 (a * b)) (hq : p.tdiv b = a) : p = a * b := by
  have e := Int.mul_tdiv_add_tmod p b
  have hm := tmod_bd p b hb
  rw [hq, Int.mul_comm] at e
  unfold wrap64 at hp
  generalize a * b = n at *
  omega
theorem sign_mul {a b : Int} (ha : a ≠ 0) (hb : b ≠ 0) : decide (a * b < 0) = (!(decide (a < 0) == decide (b < 0))) := by
  by_cases h1 : a < 0 <;> by_cases h2 : b < 0
  · have : 0 < a * b := Int.mul_pos_of_neg_of_neg h1 h2
    simp [h1, h2]; omega
  · have : a * b < 0 := Int.mul_neg_of_neg_of_pos h1 (by omega)
    simp [h1, h2, this]
  · have : a * b < 0 := Int.mul_neg_of_pos_of_neg (by omega) h2
    simp [h1, h2, this]
  · have : 0 < a * b := Int.mul_pos (by omega) (by omega)
    simp [h1, h2]; omega
theorem mul_no1 {a b : Int} (ha : a ≠ 0) (hb : b ≠ 0) (h : ¬ decide (wrap64 (a * b) < 0) = (!(decide (a < 0) == decide (b < 0)))) : ¬ Is64 (a * b) := by
  intro hf
  rw [IntWalk.wrap64_in _ hf] at h
  exact h (sign_mul ha hb)
theorem mul_no2 {a b : Int} (hb : b ≠ 0) (h1 : -9223372036854775808 ≤ a) (h2 : a ≤ 9223372036854775807) (h : (wrap64 ((wrap64 (a * b)).tdiv b) != a) = true) : ¬ Is64 (a * b) := by
  intro hf
  rw [IntWalk.wrap64_in _ hf, Int.mul_tdiv_cancel _ hb, IntWalk.wrap64_in _ ⟨h1, h2⟩] at h
  simp at h
theorem mul_yes3 {a b : Int} (_ha : a ≠ 0) (hb : b ≠ 0) (h3 : -9223372036854775808 ≤ b) (h4 : b ≤ 9223372036854775807)
    (hs : decide (wrap64 (a * b) < 0) = (!(decide (a < 0) == decide (b < 0)))) (h : (wrap64 ((wrap64 (a * b)).tdiv b) != a) = false) : wrap64 (a * b) = a * b := by
  have hq : wrap64 ((wrap64 (a * b)).tdiv b) = a := by simpa using h
  by_cases hc : wrap64 (a * b) = -9223372036854775808 ∧ b = -1
  · obtain ⟨hc1, rfl⟩ := hc
    rw [hc1] at hq hs
    have hq2 : (-9223372036854775808 : Int).tdiv (-1) = 9223372036854775808 := by decide
    rw [hq2] at hq
    unfold wrap64 at hq
    have : a = -9223372036854775808 := by omega
    subst this
    simp at hs
  · have hp : -9223372036854775808 ≤ wrap64 (a * b) ∧ wrap64 (a * b) ≤ 9223372036854775807 := by unfold wrap64; omega
    have hbd := tdiv_bd (wrap64 (a * b)) b hb hp.1 hp.2 hc
    rw [IntWalk.wrap64_in _ hbd] at hq
    exact mul_back hb h3 h4 rfl hq
set_option maxHeartbeats 800000 in
theorem mul_any (a b : Int) (w : World) (h1 : -9223372036854775808 ≤ a) (h2 : a ≤ 9223372036854775807) (h3 : -9223372036854775808 ≤ b) (h4 : b ≤ 9223372036854775807) :
    Calls Tryz.prog 148 #[.int .i64 a, .int .i64 b] w fun e w' => e = .returned (.tuple #[.int .i64 (fitV (a * b)), .bool (fitB (a * b))]) ∧ w = w' := by
  by_cases ha : a = 0
  · subst ha
    rw [Int.zero_mul]
    go_enter Tryz.func148, Tryz.ntmps148
    go_wp2
    go_ret2
    exact ⟨rfl, rfl⟩
  · by_cases hb : b = 0
    · subst hb
      rw [Int.mul_zero]
      have a0 : (a == 0) = false := by simpa using ha
      go_enter Tryz.func148, Tryz.ntmps148
      go_wp2
      go_ret2
      exact ⟨rfl, rfl⟩
    · have a0 : (a == 0) = false := by simpa using ha
      have b0 : (b == 0) = false := by simpa using hb
      go_enter Tryz.func148, Tryz.ntmps148
      go_wp2
      all_goals go_ret2
      · exact ⟨ret_no (mul_no1 ha hb ‹_›), rfl⟩
      · exact ⟨ret_no (mul_no2 hb h1 h2 ‹_›), rfl⟩
      · have hm := mul_yes3 ha hb h3 h4 ‹_› ‹_›
        exact ⟨ret_yes (by unfold Is64; rw [← hm]; unfold wrap64; omega) hm, rfl⟩

end Go.Proofs.YthjjgpepgbfalaaGreatDoor.Lx
end
section
/-! The number of any text to any base from 2 to 16, or why it is none. -/
namespace Go.Proofs.YthjjgpepgbfalaaGreatDoor.Lx
open Go.RowKit

theorem ret_int {k : IntKind} {a b : Int} (h : a = b) : Ending.returned (.int k a) = .returned (.int k b) := by rw [h]
/-- May it be a base? -/
def baseB (b : Int) : Bool := decide (2 ≤ b ∧ b ≤ 16)
set_option maxHeartbeats 400000 in
theorem base_any (b : Int) (w : World) : Calls Tryz.prog 132 #[.int .i64 b] w fun e w' => e = .returned (.bool (baseB b)) ∧ w = w' := by
  by_cases h : 2 ≤ b
  · by_cases h2 : b ≤ 16
    · have e1 : baseB b = true := decide_eq_true ⟨h, h2⟩
      rw [e1]
      clear e1
      go_enter Tryz.func132, Tryz.ntmps132
      go_wp2
      go_ret
      exact ⟨rfl, rfl⟩
    · have e1 : baseB b = false := decide_eq_false (fun hh => h2 hh.2)
      have e2 : decide (b ≤ 16) = false := decide_eq_false h2
      rw [e1]
      clear e1
      go_enter Tryz.func132, Tryz.ntmps132
      go_wp2
      go_ret
      exact ⟨rfl, rfl⟩
  · have e1 : baseB b = false := decide_eq_false (fun hh => h hh.1)
    have e2 : decide (2 ≤ b) = false := decide_eq_false h
    rw [e1]
    clear e1
    go_enter Tryz.func132, Tryz.ntmps132
    go_wp2
    go_ret
    exact ⟨rfl, rfl⟩

theorem small_at (k : Nat) (h : k < 16) (W : World) : (Instr.index 9 (.string { data := #[48, 49, 50, 51, 52, 53, 54, 55, 56, 57, 97, 98, 99, 100, 101, 102] }) (.int .i64 (k : Int))).run Tryz.prog W = .ok (.int .u8 ((ch k).toNat : Int)) W :=
  match k, h with
  | 0, _ => by kernel_rfl
  | 1, _ => by kernel_rfl
  | 2, _ => by kernel_rfl
  | 3, _ => by kernel_rfl
  | 4, _ => by kernel_rfl
  | 5, _ => by kernel_rfl
  | 6, _ => by kernel_rfl
  | 7, _ => by kernel_rfl
  | 8, _ => by kernel_rfl
  | 9, _ => by kernel_rfl
  | 10, _ => by kernel_rfl
  | 11, _ => by kernel_rfl
  | 12, _ => by kernel_rfl
  | 13, _ => by kernel_rfl
  | 14, _ => by kernel_rfl
  | 15, _ => by kernel_rfl
  | k + 16, h => absurd h (by omega)
theorem great_at (k : Nat) (h : k < 16) (W : World) : (Instr.index 9 (.string { data := #[48, 49, 50, 51, 52, 53, 54, 55, 56, 57, 65, 66, 67, 68, 69, 70] }) (.int .i64 (k : Int))).run Tryz.prog W = .ok (.int .u8 ((chG k).toNat : Int)) W :=
  match k, h with
  | 0, _ => by kernel_rfl
  | 1, _ => by kernel_rfl
  | 2, _ => by kernel_rfl
  | 3, _ => by kernel_rfl
  | 4, _ => by kernel_rfl
  | 5, _ => by kernel_rfl
  | 6, _ => by kernel_rfl
  | 7, _ => by kernel_rfl
  | 8, _ => by kernel_rfl
  | 9, _ => by kernel_rfl
  | 10, _ => by kernel_rfl
  | 11, _ => by kernel_rfl
  | 12, _ => by kernel_rfl
  | 13, _ => by kernel_rfl
  | 14, _ => by kernel_rfl
  | 15, _ => by kernel_rfl
  | k + 16, h => absurd h (by omega)

/-- What digitOf returns. -/
def digI (b c : Nat) : Int := if dgN c < b then (dgN c : Int) else -1

set_option maxHeartbeats 800000 in
set_option maxRecDepth 100000 in
theorem digitOf_any (b c : Nat) (w : World) (hb : b ≤ 16) (hc : c < 256) :
    Calls Tryz.prog 134 #[.int .u8 (c : Int), .int .i64 (b : Int)] w fun e w' => e = .returned (.int .i64 (digI b c)) ∧ w = w' := by
  go_enter Tryz.func134, Tryz.ntmps134
  go_wp2_with fail
  go_loop [7] (fun kv => ∃ k : Nat, kv = .int .i64 (k : Int) ∧ k ≤ b ∧ Hid (k ≤ dgN c)) (fun kv => b - (RowKit.intOf kv).toNat)
  case atStart => exact ⟨0, rfl, Nat.zero_le _, Lib.hid (Nat.zero_le _)⟩
  case round =>
    obtain ⟨k, rfl, hk, HK⟩ := hrel
    by_cases hkb : k < b
    · have hi1 := small_at k (by omega)
      have hi2 := great_at k (by omega)
      have HA := Lib.hid (dg_all c hc k (by omega))
      by_cases h1 : c = (ch k).toNat
      · have h1B : ((c : Int) == ((ch k).toNat : Int)) = true := by rw [beq_iff_eq, h1]
        have hd : dgN c = k := HA.out.2 (.inl h1)
        have HR : Hid (digI b c = (k : Int)) := by unfold Hid digI; rw [hd, if_pos hkb]
        clear h1 hd
        go_wp2_with fail
        go_ret
        exact ⟨ret_int HR.out.symm, rfl⟩
      · have h1B : ((c : Int) == ((ch k).toNat : Int)) = false := beq_eq_false_iff_ne.2 (by omega)
        by_cases h2 : c = (chG k).toNat
        · have h2B : ((c : Int) == ((chG k).toNat : Int)) = true := by rw [beq_iff_eq, h2]
          have hd : dgN c = k := HA.out.2 (.inr h2)
          have HR : Hid (digI b c = (k : Int)) := by unfold Hid digI; rw [hd, if_pos hkb]
          clear h1 h2 hd
          go_wp2_with fail
          go_ret
          exact ⟨ret_int HR.out.symm, rfl⟩
        · have h2B : ((c : Int) == ((chG k).toNat : Int)) = false := beq_eq_false_iff_ne.2 (by omega)
          have hd : dgN c ≠ k := fun h => by rcases HA.out.1 h with h | h <;> omega
          have HK2 : Hid (k + 1 ≤ dgN c) := Lib.hid (by have := HK.out; omega)
          clear h1 h2 hd
          go_wp2_with fail
          go_round
          case rel => exact ⟨k + 1, by go_num, by omega, HK2⟩
          case measure => simp [RowKit.intOf]; omega
    · have HR : Hid (digI b c = -1) := by
        unfold Hid digI
        rw [if_neg (by have := HK.out; omega)]
      go_wp2_with fail
      go_ret
      exact ⟨ret_int HR.out.symm, rfl⟩

set_option maxHeartbeats 400000 in
theorem set_core (n b e p z : Int) (w : World) (h1 : -9223372036854775808 ≤ n) (h2 : n ≤ 9223372036854775807) (h3 : -9223372036854775808 ≤ b) (h4 : b ≤ 9223372036854775807) (h5 : -9223372036854775808 ≤ e) (h6 : e ≤ 9223372036854775807)
    (hp : Hid (n * b = p)) (hz : Hid (p + e = z)) (hm : Hid (¬ Is64 p → ¬ Is64 z)) :
    Calls Tryz.prog 135 #[.int .i64 n, .int .i64 b, .int .i64 e] w fun e w' => e = .returned (.tuple #[.int .i64 (fitV z), .bool (fitB z)]) ∧ w = w' := by
  have hc := mul_any n b w h1 h2 h3 h4
  rw [hp.out] at hc
  by_cases hf : Is64 p
  · rw [fitV_yes hf, fitB_yes hf] at hc
    have ha := add_any p e w hf.1 hf.2 h5 h6
    rw [hz.out] at ha
    have HC := Lib.hid hc
    have HA := Lib.hid ha
    clear hc ha hf
    go_enter Tryz.func135, Tryz.ntmps135
    go_wp2_with fail
    refine HC.out.mono ?_
    rintro e w' ⟨rfl, rfl⟩
    go_wp2_with fail
    refine HA.out.mono ?_
    rintro e w' ⟨rfl, rfl⟩
    go_wp2_with fail
    go_ret2
    exact ⟨rfl, rfl⟩
  · rw [fitV_no hf, fitB_no hf] at hc
    have HC := Lib.hid hc
    have HN := Lib.hid (hm.out hf)
    clear hc hf
    go_enter Tryz.func135, Tryz.ntmps135
    go_wp2_with fail
    refine HC.out.mono ?_
    rintro e w' ⟨rfl, rfl⟩
    go_wp2_with fail
    go_ret2
    exact ⟨ret_no HN.out, rfl⟩

/-- A number of one sign that doesn't fit doesn't fit with more behind it. -/
theorem far_mono {g : Int} {V V' : Nat} (hg : g = 1 ∨ g = -1) (hV : V ≤ V') (h : ¬ Is64 (g * (V : Int))) : ¬ Is64 (g * (V' : Int)) := by
  unfold Is64 at *
  rcases hg with rfl | rfl
  · rw [Int.one_mul] at *; omega
  · rw [Int.neg_one_mul] at *; omega

/-- Setting one more digit behind a number of the digit's sign. -/
theorem set_any (g : Int) (V b d : Nat) (n e z : Int) (w : World) (hg : g = 1 ∨ g = -1) (hb2 : b ≤ 16) (hd : d < 16) (hn : Hid (g * (V : Int) = n)) (he : Hid (g * (d : Int) = e)) (hf : Is64 n) (hz : Hid (g * ((V * b + d : Nat) : Int) = z)) :
    Calls Tryz.prog 135 #[.int .i64 n, .int .i64 (b : Int), .int .i64 e] w fun e w' => e = .returned (.tuple #[.int .i64 (fitV z), .bool (fitB z)]) ∧ w = w' := by
  have hp : n * (b : Int) = g * ((V * b : Nat) : Int) := by rw [← hn.out, Int.mul_assoc, Int.natCast_mul]
  refine set_core n b e _ z w hf.1 hf.2 (by omega) (by omega) ?_ ?_ rfl ?_ ?_
  · rw [← he.out]; rcases hg with rfl | rfl <;> omega
  · rw [← he.out]; rcases hg with rfl | rfl <;> omega
  · unfold Hid
    rw [hp, ← hz.out, ← he.out, Int.natCast_add, Int.mul_add]
  · unfold Hid
    rw [hp, ← hz.out]
    exact far_mono hg (Nat.le_add_right _ _)

/-- What Parse makes of the first k digits' bytes. -/
structure ParseRel (g : Int) (b : Nat) (D : List UInt8) (k : Nat) (n : Int) (f : Bool) : Prop where
  ok : okT b (D.take k) = true
  num : n = fitV (g * (valT b (D.take k) : Int))
  fit : f = fitB (g * (valT b (D.take k) : Int))
theorem take_at (D : List UInt8) (k : Nat) (h : k < D.length) : D.take (k + 1) = D.take k ++ [D[k]] := by
  rw [List.take_succ_eq_append_getElem h]

theorem extract_tail (c : UInt8) (t : List UInt8) : (ByteArray.mk (c :: t).toArray).extract 1 (ByteArray.mk (c :: t).toArray).size = ⟨t.toArray⟩ := by
  apply ByteArray.ext
  rw [ByteArray.data_extract]
  apply Array.ext'
  simp [ByteArray.size]

theorem u8_ne {c k : UInt8} {n : Int} (hk : (k.toNat : Int) = n) (h : c ≠ k) : ((c.toNat : Int) == n) = false := by
  rw [beq_eq_false_iff_ne]
  intro he
  exact h (UInt8.toNat_inj.1 (by omega))
theorem ret_cut {g g' : Int} {s s' : ByteArray} (hg : g = g') (hs : s = s') : Ending.returned (.tuple #[.int .i64 g, .string s]) = .returned (.tuple #[.int .i64 g', .string s']) := by rw [hg, hs]

set_option maxHeartbeats 800000 in
theorem cut_any (L : List UInt8) (w : World) (hl : L.length ≤ 5000) :
    Calls Tryz.prog 133 #[.string ⟨L.toArray⟩] w fun e w' => e = .returned (.tuple #[.int .i64 (cutG L), .string ⟨(cutR L).toArray⟩]) ∧ ∃ n, w' = w.drewN n := by
  rcases L with _ | ⟨c, t⟩
  · go_enter Tryz.func133, Tryz.ntmps133
    go_wp2_with fail
    go_ret2
    exact ⟨rfl, 0, rfl⟩
  · by_cases h1 : c = 45
    · subst h1
      have hex := extract_tail 45 t
      go_enter Tryz.func133, Tryz.ntmps133
      go_wp2_with fail
      go_quiet (fail)
      go_wp2_with fail
      go_ret2
      exact ⟨ret_cut rfl hex, _, rfl⟩
    · have h1B : ((c.toNat : Int) == 45) = false := u8_ne (k := 45) rfl h1
      by_cases h2 : c = 43
      · subst h2
        have hget : ∀ h, ((⟨((43 : UInt8) :: t).toArray⟩ : ByteArray)[0]'h) = 43 := fun _ => rfl
        have hex := extract_tail 43 t
        go_enter Tryz.func133, Tryz.ntmps133
        go_wp2_with fail
        go_quiet (fail)
        go_wp2_with fail
        go_ret2
        exact ⟨ret_cut rfl hex, _, rfl⟩
      · have h2B : ((c.toNat : Int) == 43) = false := u8_ne (k := 43) rfl h2
        have e1 : cutG (c :: t) = 1 := by unfold cutG; split <;> simp_all
        have e2 : cutR (c :: t) = c :: t := by unfold cutR; split <;> simp_all
        rw [e1, e2]
        have H1 := Lib.hid h1
        have H2 := Lib.hid h2
        have hget : ∀ h, ((⟨(c :: t).toArray⟩ : ByteArray)[0]'h) = c := fun _ => rfl
        clear e1 e2 h1 h2
        go_enter Tryz.func133, Tryz.ntmps133
        go_wp2_with fail
        go_ret2
        exact ⟨rfl, 0, rfl⟩

/-- The number of a text, and the error's number. -/
def parseV (b : Nat) (L : List UInt8) : Int := if cutR L = [] ∨ okT b (cutR L) = false then 0 else fitV (cutG L * (valT b (cutR L) : Int))
def parseE (b : Nat) (L : List UInt8) : Int := if cutR L = [] ∨ okT b (cutR L) = false then 4 else if fitB (cutG L * (valT b (cutR L) : Int)) = true then 0 else 7
theorem cutG_pm (L : List UInt8) : cutG L = 1 ∨ cutG L = -1 := by
  unfold cutG
  split
  · exact .inr rfl
  · exact .inl rfl
theorem cutR_len (L : List UInt8) : (cutR L).length ≤ L.length := by
  unfold cutR
  split <;> simp
theorem ret_parse {a a' e e' : Int} (h1 : a = a') (h2 : e = e') : Ending.returned (.tuple #[.int .i64 a, .int .i64 e]) = .returned (.tuple #[.int .i64 a', .int .i64 e']) := by rw [h1, h2]
theorem ok_false {b : Nat} {D : List UInt8} {k : Nat} (hk : k < D.length) (h : ¬ dgC D[k] < b) : okT b D = false := by
  rw [Bool.eq_false_iff]
  intro ha
  have h1 := List.all_eq_true.1 ha D[k] (List.getElem_mem hk)
  exact h (by simpa using h1)

set_option maxHeartbeats 1600000 in
set_option maxRecDepth 100000 in
theorem parse_any (b : Nat) (L : List UInt8) (w : World) (hb : 2 ≤ b) (hb2 : b ≤ 16) (hl : L.length ≤ 5000) :
    Calls Tryz.prog 118 #[.string ⟨L.toArray⟩, .int .i64 (b : Int)] w fun e w' => e = .returned (.tuple #[.int .i64 (parseV b L), .int .i64 (parseE b L)]) ∧ Below w.heap.size w w' := by
  have hcb := base_any (b : Int)
  rw [show baseB (b : Int) = true from decide_eq_true ⟨by omega, by omega⟩] at hcb
  have HCB := Lib.hid hcb
  have hcc := fun w => cut_any L w hl
  obtain ⟨g, HG⟩ : ∃ g, Hid (cutG L = g) := ⟨_, rfl⟩
  obtain ⟨D, HD⟩ : ∃ D, Hid (cutR L = D) := ⟨_, rfl⟩
  rw [HG.out, HD.out] at hcc
  have HCC := Lib.hid hcc
  have hDl : D.length ≤ 5000 := by rw [← HD.out]; exact Nat.le_trans (cutR_len L) hl
  have HPM : Hid (g = 1 ∨ g = -1) := by unfold Hid; rw [← HG.out]; exact cutG_pm L
  clear hcb hcc
  rcases D with _ | ⟨c0, t0⟩
  · have HV : Hid (parseV b L = 0) := by unfold Hid parseV; rw [if_pos (.inl HD.out)]
    have HE : Hid (parseE b L = 4) := by unfold Hid parseE; rw [if_pos (.inl HD.out)]
    go_enter Tryz.func118, Tryz.ntmps118
    go_wp2_with fail
    refine (HCB.out _).mono ?_
    rintro e w' ⟨rfl, rfl⟩
    go_wp2_with fail
    refine (HCC.out _).mono ?_
    rintro e w' ⟨rfl, n, rfl⟩
    go_wp2_with fail
    go_ret2
    exact ⟨ret_parse HV.out.symm HE.out.symm, below_drewN (Below.refl _ _) _⟩
  · go_enter Tryz.func118, Tryz.ntmps118
    go_wp2_with fail
    refine (HCB.out _).mono ?_
    rintro e w' ⟨rfl, rfl⟩
    go_wp2_with fail
    refine (HCC.out _).mono ?_
    rintro e w' ⟨rfl, n, rfl⟩
    go_wp2_with fail
    go_loop [8, 9, 24] (fun nv fv kv => ∃ (nn : Int) (f : Bool) (k : Nat), nv = .int .i64 nn ∧ fv = .bool f ∧ kv = .int .i64 (k : Int) ∧ k ≤ t0.length + 1 ∧ ParseRel g b (c0 :: t0) k nn f) (fun _ _ kv => t0.length + 1 - (RowKit.intOf kv).toNat)
    case atStart => exact ⟨0, true, 0, rfl, rfl, rfl, by omega, ⟨rfl, by simp [valT]; rfl, by simp [valT]; rfl⟩⟩
    case round =>
      obtain ⟨nn, f, k, rfl, rfl, rfl, hk, hr⟩ := hrel
      simp at hDl
      by_cases hkl : k < t0.length + 1
      · have hkD : k < (c0 :: t0).length := by simpa using hkl
        obtain ⟨c, HC⟩ : ∃ c, Hid ((c0 :: t0)[k]'hkD = c) := ⟨_, rfl⟩
        have hget : ∀ h, ((⟨(c0 :: t0).toArray⟩ : ByteArray)[k]'h) = c := fun _ => HC.out
        have hc256 : c.toNat < 256 := c.toNat_lt
        by_cases hdg : dgC c < b
        · obtain ⟨d, HDD⟩ : ∃ d, Hid (dgC c = d) := ⟨_, rfl⟩
          have hdd := digitOf_any b c.toNat
          rw [show digI b c.toNat = (d : Int) by unfold digI; rw [show dgN c.toNat = d from HDD.out, if_pos (by rw [← HDD.out]; exact hdg)]] at hdd
          have HDI := Lib.hid hdd
          have hd16 : d < b := by rw [← HDD.out]; exact hdg
          have hgd1 : -16 ≤ g * (d : Int) := by rcases HPM.out with h | h <;> rw [h] <;> omega
          have hgd2 : g * (d : Int) ≤ 16 := by rcases HPM.out with h | h <;> rw [h] <;> omega
          have HT := Lib.hid (take_at (c0 :: t0) k hkD)
          have HOK : Hid (okT b ((c0 :: t0).take (k + 1)) = true) := by
            unfold Hid
            rw [HT.out, okT_snoc, hr.ok, HC.out]
            simpa using hdg
          have HVN : Hid (valT b ((c0 :: t0).take (k + 1)) = valT b ((c0 :: t0).take k) * b + d) := by
            unfold Hid
            rw [HT.out, valT_snoc, HC.out, HDD.out]
          have HR := Lib.hid hr
          clear hr hdd hdg
          rcases hf : f with _ | _
          · subst hf
            have hno : ¬ Is64 (g * (valT b ((c0 :: t0).take k) : Int)) := by
              intro h
              have h2 := HR.out.fit
              rw [fitB_yes h] at h2
              cases h2
            have HNO := Lib.hid (far_mono HPM.out (V' := valT b ((c0 :: t0).take (k + 1))) (by rw [HVN.out]; have : valT b ((c0 :: t0).take k) * 1 ≤ valT b ((c0 :: t0).take k) * b := Nat.mul_le_mul_left _ (by omega); omega) hno)
            have hn0 : nn = 0 := by rw [HR.out.num, fitV_no hno]
            subst hn0
            clear hno
            go_wp2_with fail
            refine (HDI.out _ hb2 hc256).mono ?_
            rintro e w' ⟨rfl, rfl⟩
            go_wp2_with fail
            go_round
            case rel => exact ⟨0, false, k + 1, rfl, rfl, by go_num, by omega, ⟨HOK.out, (fitV_no HNO.out).symm, (fitB_no HNO.out).symm⟩⟩
            case measure => simp [RowKit.intOf]; omega
          · subst hf
            have hyes : Is64 (g * (valT b ((c0 :: t0).take k) : Int)) := by
              by_cases h : Is64 (g * (valT b ((c0 :: t0).take k) : Int))
              · exact h
              · have h2 := HR.out.fit
                rw [fitB_no h] at h2
                cases h2
            have HN : Hid (g * (valT b ((c0 :: t0).take k) : Int) = nn) := by unfold Hid; rw [HR.out.num, fitV_yes hyes]
            have HY : Hid (Is64 nn) := by unfold Hid; rw [← HN.out]; exact hyes
            obtain ⟨z, HZ⟩ : ∃ z, Hid (g * ((valT b ((c0 :: t0).take k) * b + d : Nat) : Int) = z) := ⟨_, rfl⟩
            have hset := fun w => set_any g (valT b ((c0 :: t0).take k)) b d nn (g * (d : Int)) z w HPM.out hb2 (by omega) HN rfl HY.out HZ
            have HSET := Lib.hid hset
            clear hyes hset
            go_wp2_with fail
            refine (HDI.out _ hb2 hc256).mono ?_
            rintro e w' ⟨rfl, rfl⟩
            go_wp2_with fail
            refine (HSET.out _).mono ?_
            rintro e w' ⟨rfl, rfl⟩
            go_wp2_with fail
            go_round
            case rel => exact ⟨fitV z, fitB z, k + 1, rfl, rfl, by go_num, by omega, ⟨HOK.out, by rw [HVN.out, HZ.out], by rw [HVN.out, HZ.out]⟩⟩
            case measure => simp [RowKit.intOf]; omega
        · have hdd := digitOf_any b c.toNat
          rw [show digI b c.toNat = -1 by unfold digI; exact if_neg hdg] at hdd
          have HDI := Lib.hid hdd
          have HF := Lib.hid (ok_false hkD (by rw [HC.out]; exact hdg))
          have HV : Hid (parseV b L = 0) := by unfold Hid parseV; rw [if_pos (.inr (by rw [HD.out]; exact HF.out))]
          have HE : Hid (parseE b L = 4) := by unfold Hid parseE; rw [if_pos (.inr (by rw [HD.out]; exact HF.out))]
          clear hdd hdg hr
          go_wp2_with fail
          refine (HDI.out _ hb2 hc256).mono ?_
          rintro e w' ⟨rfl, rfl⟩
          go_wp2_with fail
          go_ret2
          exact ⟨ret_parse HV.out.symm HE.out.symm, below_drewN (Below.refl _ _) _⟩
      · have hke : (c0 :: t0).take k = c0 :: t0 := List.take_of_length_le (by simp; omega)
        have h1 := hr.ok
        have h2 := hr.num
        have h3 := hr.fit
        rw [hke] at h1 h2 h3
        have HNE : Hid (¬ (cutR L = [] ∨ okT b (cutR L) = false)) := by
          unfold Hid
          rw [HD.out]
          rintro (h | h)
          · cases h
          · rw [h1] at h; cases h
        have HV : Hid (parseV b L = nn) := by unfold Hid parseV; rw [if_neg HNE.out, HD.out, HG.out, h2]
        rcases hf : f with _ | _
        · subst hf
          have HE : Hid (parseE b L = 7) := by unfold Hid parseE; rw [if_neg HNE.out, HD.out, HG.out, ← h3]; rfl
          have hn0 : nn = 0 := by rw [h2]; unfold fitV; rw [← h3]; rfl
          subst hn0
          clear h1 h2 h3 hke hr
          go_wp2_with fail
          go_ret2
          exact ⟨ret_parse HV.out.symm HE.out.symm, below_drewN (Below.refl _ _) _⟩
        · subst hf
          have HE : Hid (parseE b L = 0) := by unfold Hid parseE; rw [if_neg HNE.out, HD.out, HG.out, ← h3]; rfl
          clear h1 h2 h3 hke hr
          go_wp2_with fail
          go_ret2
          exact ⟨ret_parse HV.out.symm HE.out.symm, below_drewN (Below.refl _ _) _⟩


end Go.Proofs.YthjjgpepgbfalaaGreatDoor.Lx
end
section
/-! What package lex makes of texts, as plain functions on lists of bytes. -/
namespace Go.Proofs.YthjjgpepgbfalaaGreatDoor.Lx

def isDig (c : UInt8) : Bool := decide (48 ≤ c.toNat) && decide (c.toNat ≤ 57)
def wMarks : List UInt8 := [33, 36, 37, 38, 42, 47, 58, 60, 61, 62, 63, 94, 95, 126, 43, 45, 46, 64, 35]
/-- May a byte stand in a word? -/
def inW (c : UInt8) : Bool := (decide (97 ≤ c.toNat) && decide (c.toNat ≤ 122)) || (decide (65 ≤ c.toNat) && decide (c.toNat ≤ 90)) || isDig c || wMarks.contains c
def isBlank (c : UInt8) : Bool := [9, 10, 12, 13, 32].contains c
def parts (c : UInt8) : Bool := [9, 10, 12, 13, 32, 59, 40, 41, 34].contains c
/-- How many bytes ahead are of a kind. -/
def pre (p : UInt8 → Bool) (L : List UInt8) : Nat := (L.takeWhile p).length
def wordK (L : List UInt8) : Nat := if [35, 92].isPrefixOf L then min 3 L.length else 0
def wsz (L : List UInt8) : Nat := wordK L + pre inW (L.drop (wordK L))
def lineSz (L : List UInt8) : Nat := pre (· != 10) L
/-- The end of a remark, of which some are open, behind i bytes; 0: it has none. -/
def remGo : List UInt8 → Int → Nat → Nat
  | a :: b :: t, o, i =>
    if a = 35 ∧ b = 124 then (if o + 1 = 0 then i + 2 else remGo t (o + 1) (i + 2))
    else if a = 124 ∧ b = 35 then (if o - 1 = 0 then i + 2 else remGo t (o - 1) (i + 2))
    else if o = 0 then i + 1 else remGo (b :: t) o (i + 1)
  | _, _, _ => 0
def remSz (L : List UInt8) : Nat := remGo L 0 0
/-- The first byte that may stand in no text. -/
def hiB (L : List UInt8) : Option Nat := L.findIdx? fun c => decide (128 ≤ c.toNat)
def qGo : List UInt8 → Nat → Nat
  | [], _ => 0
  | c :: t, i => if c = 34 then i + 1 else if c = 92 then (match t with | [] => 0 | _ :: u => qGo u (i + 2)) else qGo t (i + 1)
def qsz (L : List UInt8) : Nat := qGo (L.drop 1) 1
/-- The byte of hex digits. -/
def byteOk (h : List UInt8) : Bool := !(h == [] || h.head? == some 43 || h.head? == some 45) && (parseE 16 h == 0 && decide (parseV 16 h < 128))
def byteO (h : List UInt8) : Option Nat := if byteOk h = true then some (parseV 16 h).toNat else none
def escL : List UInt8 := [34, 92, 110, 116, 114, 97, 98]
def escB : List UInt8 := [34, 92, 10, 9, 13, 7, 8]
/-- The byte of the escape that a text begins with, and its size; 0: it is none. -/
def esc (L : List UInt8) : Nat × Nat :=
  if escL.contains (L.getD 1 0) then ((escB.getD (escL.idxOf (L.getD 1 0)) 0).toNat, 2)
  else if [92, 120].isPrefixOf L = true ∧ (L.drop 2).contains 59 = true ∧ byteOk ((L.drop 2).takeWhile (· != 59)) = true then
    ((parseV 16 ((L.drop 2).takeWhile (· != 59))).toNat, ((L.drop 2).takeWhile (· != 59)).length + 3)
  else (0, 0)
/-- What stands between the quotes, or the place of the first fault. -/
def unq : Nat → List UInt8 → Nat → Except Nat (List UInt8)
  | 0, _, _ => .ok []
  | _ + 1, [], _ => .ok []
  | f + 1, c :: t, i =>
    let r := if c = 92 then esc (c :: t) else (c.toNat, 1)
    if r.2 = 0 ∨ 128 ≤ r.1 then .error i else
      match unq f ((c :: t).drop r.2) (i + r.2) with
      | .ok l => .ok (UInt8.ofNat r.1 :: l)
      | .error j => .error j
/-- A token, but for its place. -/
structure Tk where
  k : Nat
  n : Int
  s : List UInt8
deriving DecidableEq
def cutB (L : List UInt8) : Nat × List UInt8 :=
  if L.length < 2 ∨ L.getD 0 0 ≠ 35 then (10, L)
  else if L.getD 1 0 = 98 then (2, L.drop 2)
  else if L.getD 1 0 = 111 then (8, L.drop 2)
  else if L.getD 1 0 = 100 then (10, L.drop 2)
  else if L.getD 1 0 = 120 then (16, L.drop 2)
  else (10, L)
def nms : List (List UInt8 × Nat) := [([110, 117, 108], 0), ([115, 112, 97, 99, 101], 32), ([110, 101, 119, 108, 105, 110, 101], 10), ([116, 97, 98], 9), ([114, 101, 116, 117, 114, 110], 13), ([101, 115, 99, 97, 112, 101], 27), ([100, 101, 108, 101, 116, 101], 127), ([97, 108, 97, 114, 109], 7), ([98, 97, 99, 107, 115, 112, 97, 99, 101], 8)]
/-- The number of a character, behind its mark. -/
def charO (r : List UInt8) : Option Nat :=
  if r.length = 1 then some (r.getD 0 0).toNat
  else match nms.lookup r with
  | some n => some n
  | none => if [120].isPrefixOf r then byteO (r.drop 1) else none
def chrO (L : List UInt8) : Option Nat := if [35, 92].isPrefixOf L then charO (L.drop 2) else none
def begN (L : List UInt8) : Bool := isDig (L.getD 0 0) || (decide (1 < L.length) && (L.getD 0 0 == 43 || L.getD 0 0 == 45) && isDig (L.getD 1 0))
def boolO (L : List UInt8) : Option Int := if L = [35, 116] ∨ L = [35, 116, 114, 117, 101] then some 1 else if L = [35, 102] ∨ L = [35, 102, 97, 108, 115, 101] then some 0 else none
/-- What a word is, and the error's number. -/
def wordM (L : List UInt8) : Tk × Int :=
  if L = [46] then (⟨9, 0, []⟩, 0)
  else if parseE (cutB L).1 (cutB L).2 ≠ 4 then (⟨10, parseV (cutB L).1 (cutB L).2, []⟩, parseE (cutB L).1 (cutB L).2)
  else match boolO L with
  | some b => (⟨11, b, []⟩, 0)
  | none => match chrO L with
    | some n => (⟨12, n, []⟩, 0)
    | none => if L = [] ∨ L.contains 35 = true ∨ begN L = true then (⟨0, 0, []⟩, 4) else if 32 < L.length then (⟨0, 0, []⟩, 2) else (⟨14, 0, L⟩, 0)
def mks : List (List UInt8) := [[40], [41], [35, 40], [35, 117, 56, 40], [39], [96], [44], [44, 64], [35, 59]]
/-- The mark that a text begins with. -/
def markGo (L : List UInt8) : Nat → Option Nat
  | 0 => none
  | k + 1 => if (mks.getD k []).isPrefixOf L then some k else markGo L k
def markO (L : List UInt8) : Option Nat := markGo L 9
/-- The label that a text begins with: 15 or 16, its number, its size. -/
def labO (L : List UInt8) : Option (Nat × Int × Nat) :=
  if [35].isPrefixOf L then
    let r := L.drop 1
    let d := r.takeWhile isDig
    if d.length < 1 ∨ 3 < d.length ∨ d.length = r.length then none
    else if r.getD d.length 0 = 61 then some (15, parseV 10 d, d.length + 2)
    else if r.getD d.length 0 = 35 then some (16, parseV 10 d, d.length + 2)
    else none
  else none
/-- What stands at the beginning of a text: a fault (where, which), so many bytes that are no token, or a token with its size, and whether it wants to be parted. -/
inductive St where
  | err (i : Nat) (e : Int)
  | pass (n : Nat)
  | tok (t : Tk) (n : Nat) (b : Bool)
deriving DecidableEq
def passM (L : List UInt8) (n : Nat) : St := if n = 0 then .err 0 3 else match hiB (L.take n) with | some h => .err h 4 | none => .pass n
def quotM (L : List UInt8) : St :=
  if qsz L = 0 then .err 0 3 else match unq (qsz L) ((L.take (qsz L - 1)).drop 1) 0 with
  | .error j => .err (1 + j) 4
  | .ok l => .tok ⟨13, 0, l⟩ (qsz L) true
def wrdM (L : List UInt8) : St :=
  if (wordM (L.take (wsz L))).2 ≠ 0 then .err 0 (wordM (L.take (wsz L))).2 else match hiB (L.take (wsz L)) with
  | some h => .err h 4
  | none => .tok (wordM (L.take (wsz L))).1 (L.take (wsz L)).length true
def stepM (L : List UInt8) : St :=
  match L with
  | [] => .err 0 4
  | c :: _ =>
    if isBlank c then passM L 1
    else if c = 59 then passM L (lineSz L)
    else if [35, 124].isPrefixOf L then passM L (remSz L)
    else if c = 34 then quotM L
    else match markO L with
    | some k => .tok ⟨k, 0, []⟩ (mks.getD k []).length false
    | none => match labO L with
      | some (k, n, z) => .tok ⟨k, n, []⟩ z (decide (k = 16))
      | none => wrdM L
/-- The tokens of a text from a place on, with their places; or the first fault. -/
def scanM (L : List UInt8) : Nat → Nat → Bool → List (Tk × Nat) → (Option (List (Tk × Nat))) × Nat × Int
  | 0, at_, _, l => (some l, at_, 0)
  | f + 1, at_, tight, l =>
    if L.length ≤ at_ then (some l, at_, 0)
    else
      let ap := !tight || parts (L.getD at_ 0)
      match stepM (L.drop at_) with
      | .err i e => if ap = false ∧ 0 < i then (none, at_, 4) else (none, at_ + i, e)
      | .pass n => if ap = false then (none, at_, 4) else scanM L f (at_ + n) false l
      | .tok t n b => if ap = false then (none, at_, 4) else scanM L f (at_ + n) b (l ++ [(t, at_)])
end Go.Proofs.YthjjgpepgbfalaaGreatDoor.Lx
end
