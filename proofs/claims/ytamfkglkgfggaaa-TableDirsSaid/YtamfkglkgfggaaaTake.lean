/- Pages taken off bytes. -/
import Derived.Test.YtamfkglkgfggaaaChg
set_option linter.unusedSimpArgs false
namespace Go.Proofs.Ytamfkglkgfggaaa
open Go.RowKit

/-- The number of the first bytes of four. -/
def preB (bs : List Nat) (k : Nat) : Nat → Nat
  | 0 => 0
  | j + 1 => preB bs k j * 256 + bs.getD (4 * k + j) 0
theorem preB_four (bs : List Nat) (k : Nat) : preB bs k 4 = valB bs k := by
  show (((0 * 256 + bs.getD (4 * k + 0) 0) * 256 + bs.getD (4 * k + 1) 0) * 256 + bs.getD (4 * k + 2) 0) * 256 + bs.getD (4 * k + 3) 0 = _
  unfold valB; rw [Nat.add_zero]; omega
theorem preB_lt {bs : List Nat} (hd : ∀ i, bs.getD i 0 < 256) (k j : Nat) : preB bs k j < 256 ^ j := by
  induction j with
  | zero => exact Nat.one_pos
  | succ j ih =>
    show preB bs k j * 256 + bs.getD (4 * k + j) 0 < 256 ^ (j + 1)
    have := hd (4 * k + j)
    rw [Nat.pow_succ]; omega
theorem getD_lt {bs : List Nat} (hd : ∀ x ∈ bs, x < 256) (i : Nat) : bs.getD i 0 < 256 := by
  rw [List.getD_eq_getElem?_getD]
  cases h : bs[i]? with
  | none => decide
  | some x => exact hd x (List.mem_of_getElem? h)
theorem or_i64 (x y : Nat) (hx : x < 16777216) (hy : y < 256) : bits .or .i64 ((x : Int) * 256) (y : Int) = ((x * 256 + y : Nat) : Int) := by
  have h3 : (x * 256) ||| y = x * 256 + y := by
    have h4 := Nat.two_pow_add_eq_or_of_lt (i := 8) (b := y) (by omega) x
    rw [show 2 ^ 8 * x = x * 256 by omega] at h4
    exact h4.symm
  have hs : (BitVec.ofInt 64 ((x : Int) * 256)).toNat = x * 256 := by
    rw [show (x : Int) * 256 = ((x * 256 : Nat) : Int) by omega, BitVec.ofInt_natCast, BitVec.toNat_ofNat]; exact Nat.mod_eq_of_lt (by omega)
  have hp : (BitVec.ofInt 64 (y : Int)).toNat = y := by
    rw [BitVec.ofInt_natCast, BitVec.toNat_ofNat]; exact Nat.mod_eq_of_lt (by omega)
  show IntKind.i64.wrap ((BitVec.ofInt 64 ((x : Int) * 256) ||| BitVec.ofInt 64 (y : Int)).toNat : Int) = _
  rw [BitVec.toNat_or, hs, hp, h3, IntKind.wrap_i64]
  omega
theorem set_snoc (g : Nat) : ∀ (l : List Value) (o : Nat) (v : Value) (w : World), w.setCells g o (l ++ [v]) = (w.setCells g o l).setCell ⟨g, o + l.length, none⟩ v
  | [], o, v, w => rfl
  | u :: l, o, v, w => by
    rw [List.cons_append, World.setCells, set_snoc g l (o + 1) v, World.setCells, List.length_cons, show o + 1 + l.length = o + (l.length + 1) by omega]
theorem ints_snoc (f : Nat → Nat) (a n : Nat) : ints f a (n + 1) = ints f a n ++ [.int .i64 ((f (a + n) : Nat) : Int)] := by
  unfold ints; rw [List.range_succ, List.map_append]; rfl
theorem mayI_nat (v : Nat) : mayI (v : Int) = pgN v := by
  unfold mayI pgI pgN
  rw [Bool.eq_iff_iff]; simp; omega
/-- May each of so many numbers be? -/
def okV (V : Nat → Nat) (n : Nat) : Bool := decide (∀ j, j < n → pgN (V j) = true)
set_option maxRecDepth 100000 in
set_option maxHeartbeats 3200000 in
theorem take_any (g n c m cc : Nat) (p : Option Addr) (bs : List Nat) (w : World) (hn0 : 0 < n) (hn : n ≤ 128) (hT : w.there g 0 n) (hB : Bys w p m bs) (hm : 4 * n ≤ m) (hcc : m ≤ cc) (hc2 : cc ≤ 9223372036854775807) (hp : ∀ b o, p = some ⟨b, o, none⟩ → b ≠ g) :
    Calls Try.prog 40 #[.slice (some ⟨g, 0, none⟩) n c, .slice p m cc] w fun e w' => e = .returned (.bool (okV (valB bs) n)) ∧ ∃ k, k ≤ n ∧ w' = w.setCells g 0 (ints (valB bs) 0 k) ∧ (okV (valB bs) n = true → k = n) := by
  obtain ⟨bb, o, rfl, hc⟩ := hB.at (by omega)
  have hne := hp bb o rfl
  have HT := Lib.hid hT
  have HC : Hid (∀ i, i < m → ∀ (l : List Value), (w.setCells g 0 l).cell? ⟨bb, o + i, none⟩ = some (.int .u8 ((bs.getD i 0 : Nat) : Int))) := Lib.hid fun i hi l => by
    rw [World.cell?_setCells_out g l 0 w _ (fun e _ => absurd e hne)]; exact hc i hi
  have HD := Lib.hid (getD_lt hB.dig)
  have HN := Lib.hid (And.intro hn0 hn)
  have HM := Lib.hid (And.intro hm (And.intro hcc hc2))
  have hnz : (n : Int) ≤ 128 := by omega
  have hmz : (m : Int) ≤ 9223372036854775807 := by omega
  have hcz : (cc : Int) ≤ 9223372036854775807 := by omega
  clear hT hB hc hp hn hn0 hm hcc hc2 hne
  generalize hV : valB bs = V
  have HV := Lib.hid hV
  clear hV
  go_enter Try.func40, Try.ntmps40
  go_wp2_with fail
  go_loopw [11] (fun iv wr => ∃ i : Nat, i ≤ n ∧ iv = .int .i64 (i : Int) ∧ wr = w.setCells g 0 (ints V 0 i) ∧ ∀ j, j < i → pgN (V j) = true) (fun iv _ => n - (intOf iv).toNat)
  case atStart => exact ⟨0, Nat.zero_le _, by go_num, rfl, fun j hj => absurd hj (Nat.not_lt_zero j)⟩
  case round =>
    obtain ⟨i, hi1, rfl, rfl, hok⟩ := hrel
    have HOK := Lib.hid hok
    have HI := Lib.hid hi1
    clear hok hi1
    by_cases hlt : i < n
    · have hd : decide ((i : Int) < (n : Int)) = true := decide_eq_true (by omega)
      have HL := Lib.hid hlt
      have h4i : 4 * i + 4 ≤ m := by have := HM.out; omega
      have h4c : 4 * i + 4 ≤ cc := by have := HM.out; omega
      have hiz : (i : Int) < 128 := by have := HN.out; omega
      have HTI := Lib.hid (World.there_setCells HT.out g 0 (ints V 0 i))
      have HCW := Lib.hid (fun (j : Nat) (hj : j < 4) => HC.out (4 * i + j) (by omega) (ints V 0 i))
      have HSN : Hid (w.setCells g 0 (ints V 0 (i + 1)) = (w.setCells g 0 (ints V 0 i)).setCell ⟨g, i, none⟩ (.int .i64 ((V i : Nat) : Int))) := Lib.hid (by rw [ints_snoc, set_snoc, ints_len, Nat.zero_add])
      clear hlt
      generalize hwr : w.setCells g 0 (ints V 0 i) = wr at *
      have HWR := Lib.hid hwr.symm
      clear hwr
      go_wp2_with fail
      go_loop [20, 6] (fun jv pv => ∃ j : Nat, j ≤ 4 ∧ jv = .int .i64 (j : Int) ∧ pv = .int .i64 ((preB bs i j : Nat) : Int)) (fun jv _ => 4 - (intOf jv).toNat)
      case atStart => exact ⟨0, by omega, by go_num, rfl⟩
      case round =>
        obtain ⟨j, hj, rfl, rfl⟩ := hrel
        by_cases hlj : j < 4
        · have hcell := HCW.out j hlj
          have hoff : o + i * 4 + j = o + (4 * i + j) := by omega
          rw [← hoff] at hcell
          have hor := or_i64 (preB bs i j) (bs.getD (4 * i + j) 0) (by
            have := preB_lt HD.out i j
            have h2 : 256 ^ j ≤ 256 ^ 3 := Nat.pow_le_pow_right (by omega) (by omega)
            omega) (HD.out _)
          have hpz : ((preB bs i j : Nat) : Int) < 16777216 := by
            have := preB_lt HD.out i j
            have h2 : 256 ^ j ≤ 256 ^ 3 := Nat.pow_le_pow_right (by omega) (by omega)
            omega
          have hpz0 : (0 : Int) ≤ ((preB bs i j : Nat) : Int) := Int.natCast_nonneg _
          have hyz : ((bs.getD (4 * i + j) 0 : Nat) : Int) < 256 := by have := HD.out (4 * i + j); omega
          have hyz0 : (0 : Int) ≤ ((bs.getD (4 * i + j) 0 : Nat) : Int) := Int.natCast_nonneg _
          have hjz : (j : Int) < 4 := by omega
          have HPN : Hid (preB bs i (j + 1) = preB bs i j * 256 + bs.getD (4 * i + j) 0) := Lib.hid rfl
          rw [← HPN.out] at hor
          have HJ := Lib.hid hlj
          clear hlj hj hoff
          generalize hrr : preB bs i (j + 1) = r at *
          have HRR := Lib.hid hrr
          clear hrr
          generalize preB bs i j = q at *
          generalize bs.getD (4 * i + j) 0 = y at *
          go_wp2_with fail
          go_round
          case rel => exact ⟨j + 1, by have := HJ.out; omega, by go_num, by rw [HRR.out]⟩
          case measure => have := HJ.out; simp [intOf]; omega
        · obtain rfl : j = 4 := by omega
          have HP4 : Hid (preB bs i 4 = V i) := Lib.hid (by rw [preB_four, HV.out])
          rw [HP4.out]
          have HMA := Lib.hid (fun w => may_any7 ((V i : Nat) : Int) w)
          rw [mayI_nat] at HMA
          have hvz : ((V i : Nat) : Int) < 4294967296 := by
            have := preB_lt HD.out i 4
            rw [HP4.out] at this
            omega
          have hth := HTI.out i (HL.out)
          rw [Nat.zero_add] at hth
          obtain ⟨ht1, ht2⟩ := hth
          cases hpg : pgN (V i) with
          | true =>
            rw [hpg] at HMA
            have HO2 : Hid (∀ j, j < i + 1 → pgN (V j) = true) := Lib.hid fun j hj => by
              by_cases e : j = i
              · rw [e]; exact hpg
              · exact HOK.out j (by omega)
            obtain ⟨cv, hcv⟩ := Option.isSome_iff_exists.1 ht1
            clear hpg hlj hj ht1
            generalize V i = v at *
            go_wp2_with (go_at_call 47; refine (HMA.out _).mono ?_; rintro e w7 ⟨rfl, rfl⟩)
            go_roundw
            case rel => exact ⟨i + 1, by have := HL.out; omega, by go_num, by rw [HSN.out], HO2.out⟩
            case measure => have := HL.out; simp [intOf]; omega
          | false =>
            rw [hpg] at HMA
            have HOV : Hid (okV V n = false) := Lib.hid (decide_eq_false fun h => by
              have := h i HL.out
              rw [hpg] at this; cases this)
            clear hpg hlj hj ht1 ht2
            generalize V i = v at *
            go_wp2_with (go_at_call 47; refine (HMA.out _).mono ?_; rintro e w7 ⟨rfl, rfl⟩)
            go_ret
            exact ⟨by rw [HOV.out]; rfl, i, HI.out, HWR.out, fun h => by rw [HOV.out] at h; cases h⟩
    · have hd : decide ((i : Int) < (n : Int)) = false := decide_eq_false (by omega)
      have HE : Hid (i = n) := Lib.hid (by have := HI.out; omega)
      have HOV : Hid (okV V n = true) := Lib.hid (decide_eq_true fun j hj => HOK.out j (by have := HE.out; omega))
      have hd2 : decide (i < n) = false := decide_eq_false hlt
      go_wp2_with fail
      go_ret
      exact ⟨by rw [HOV.out]; rfl, i, HI.out, rfl, fun _ => HE.out⟩
end Go.Proofs.Ytamfkglkgfggaaa
