/- What a page's bytes tell of each slot's record. -/
import Derived.Test.YtldkmkgkllgckaaDoorTrim
import Derived.Deep.RegionHeld3
import Derived.Deep.Cut
import Derived.Deep.CutBlock
import Derived.Deep.DeepCutAuto
set_option linter.unusedSimpArgs false
namespace Go.Proofs.YtldkmkgkllgckaaDoor
open Go.RowKit

theorem infoI : (Tryd.prog.info? 3).map (fun i => (i.zero, i.size, i.bytes)) = some (some (.int .i64 0), 1, 8) := by kernel_rfl
def rowI (S : ByteArray) (c k : Nat) : List Value := (List.range c).map fun j => Value.int .i64 (if j < k then (szA S j : Int) else 0)
theorem rowI_len (S : ByteArray) (c k : Nat) : (rowI S c k).length = c := by simp [rowI]
theorem rowI_get (S : ByteArray) (c k j : Nat) (h : j < c) : (rowI S c k)[j]? = some (.int .i64 (if j < k then (szA S j : Int) else 0)) := by
  unfold rowI; rw [List.getElem?_map, List.getElem?_range h]; rfl
theorem rowI_set (S : ByteArray) (c k : Nat) (h : k < c) : (rowI S c k).set k (.int .i64 (szA S k : Int)) = rowI S c (k + 1) := by
  apply List.ext_getElem?
  intro j
  rw [List.getElem?_set]
  rcases Nat.lt_or_ge j c with hj | hj
  · rw [rowI_get _ _ _ _ hj, rowI_get _ _ _ _ hj]
    split
    · rename_i e; subst e; rw [if_pos (by rw [rowI_len]; exact h), if_pos (by omega)]
    · rename_i e
      congr 2
      by_cases h1 : j < k
      · rw [if_pos h1, if_pos (by omega)]
      · rw [if_neg h1, if_neg (by omega)]
  · rw [List.getElem?_eq_none (by rw [rowI_len]; exact hj), List.getElem?_eq_none (by rw [rowI_len]; exact hj)]
    split
    · omega
    · rfl
theorem rowI_zero (S : ByteArray) (c : Nat) : (madeCells #[Value.int .i64 0] c).toList = rowI S c 0 := by
  rw [toList_madeCells_one]
  apply List.ext_getElem?
  intro j
  rcases Nat.lt_or_ge j c with hj | hj
  · rw [rowI_get _ _ _ _ hj, List.getElem?_replicate, if_pos hj]; rfl
  · rw [List.getElem?_eq_none (by simpa using hj), List.getElem?_eq_none (by rw [rowI_len]; exact hj)]
/-- A slice of sizes, told so far. -/
structure Szs (w wr : World) (S : ByteArray) (b c k : Nat) : Prop where
  below : Below w.heap.size w wr
  row : wr.ownsRow 0 3 1 (.slice (some ⟨b, 0, none⟩) c c) c (rowI S c k)
  high : w.heap.size ≤ b
theorem plus_or (a b : Nat) (h : b < 256) : a * 256 ||| b = a * 256 + b := by
  have := Nat.two_pow_add_eq_or_of_lt (i := 8) h a
  rw [show (2 : Nat) ^ 8 = 256 from rfl, Nat.mul_comm 256 a] at this
  exact this.symm
theorem or_byte0 (m c : Nat) (hm : m < 256) (hc : c < 256) : bits .or .i64 (IntKind.i64.wrap ((m : Int) * 256)) (c : Int) = ((m * 256 + c : Nat) : Int) := by
  show IntKind.i64.wrap ((BitVec.ofInt 64 (IntKind.i64.wrap ((m : Int) * 256)) ||| BitVec.ofInt 64 (c : Int)).toNat : Int) = _
  have e1 : (BitVec.ofInt 64 (IntKind.i64.wrap ((m : Int) * 256))).toNat = m * 256 := by
    rw [BitVec.toNat_ofInt, IntKind.wrap_i64]
    omega
  have e2 : (BitVec.ofInt 64 (c : Int)).toNat = c := by
    rw [BitVec.toNat_ofInt]
    omega
  rw [BitVec.toNat_or, e1, e2, plus_or m c hc, IntKind.wrap_i64]
  omega
theorem or_byte (m c : Nat) (hm : m < 256) (hc : c < 256) : bits .or .i64 ((m : Int) * 256) (c : Int) = ((m * 256 + c : Nat) : Int) := by
  have := or_byte0 m c hm hc
  rwa [show IntKind.i64.wrap ((m : Int) * 256) = (m : Int) * 256 by rw [IntKind.wrap_i64]; omega] at this
theorem or_byte2 (m c : Nat) (hm : m < 256) (hc : c < 256) : bits .or .i64 (wrap64 ((m : Int) * 256)) (c : Int) = ((m * 256 + c : Nat) : Int) := by
  rw [show wrap64 ((m : Int) * 256) = IntKind.i64.wrap ((m : Int) * 256) by unfold wrap64; exact (IntKind.wrap_i64 _).symm]
  exact or_byte0 m c hm hc
theorem sizes_bad (S : ByteArray) (w : World) (hS : S.size = 512) (h64 : 64 < cntA S) : Calls Tryd.prog 19 #[.string S] w fun e w' =>
    e = .returned (.tuple #[.slice none 0 0, .bool false]) ∧ Below w.heap.size w w' := by
  obtain ⟨c, HC⟩ : ∃ c, Hid (cntA S = c) := ⟨_, Lib.hid rfl⟩
  have h0 : ∀ w, (Instr.index 9 (.string S) (.int .i64 0)).run Tryd.prog w = .ok (.int .u8 (c : Int)) w := by rw [← HC.out]; exact index_any S 0 (by omega)
  have hc : c ≤ 255 := by have := byteAt_lt S 0; have h2 := HC.out; unfold cntA at h2; omega
  rw [HC.out] at h64
  have hd : decide ((64 : Int) < (c : Int)) = true := by simp; omega
  go_enter Tryd.func19, Tryd.ntmps19
  go_wp2_with fail
  go_ret2
  exact ⟨rfl, Below.refl _ _⟩
theorem Szs.drew {w wr : World} {S : ByteArray} {b c k : Nat} (h : Szs w wr S b c k) : Szs w wr.drew S b c k := ⟨h.below.drew, h.row.drew, h.high⟩
theorem Szs.drewN {w wr : World} {S : ByteArray} {b c k : Nat} (h : Szs w wr S b c k) (n : Nat) : Szs w (wr.drewN n) S b c k := ⟨h.below.trans ⟨rfl, rfl, rfl, Nat.le_refl _, fun _ _ => rfl⟩, h.row, h.high⟩
set_option maxHeartbeats 1600000 in
theorem sizes_any (S : ByteArray) (w : World) (hS : S.size = 512) (h64 : ¬ 64 < cntA S) : Calls Tryd.prog 19 #[.string S] w fun e w' =>
    (∃ b, e = .returned (.tuple #[.slice (some ⟨b, 0, none⟩) (cntA S) (cntA S), .bool (!decide (0 < cntA S ∧ szA S (cntA S - 1) = 0))]) ∧ Szs w w' S b (cntA S) (cntA S)) := by
  obtain ⟨c, HC⟩ : ∃ c, Hid (cntA S = c) := ⟨_, Lib.hid rfl⟩
  have h0 : ∀ w, (Instr.index 9 (.string S) (.int .i64 0)).run Tryd.prog w = .ok (.int .u8 (c : Int)) w := by rw [← HC.out]; exact index_any S 0 (by omega)
  have HIX : Hid (∀ i : Nat, i < 512 → ∀ w, (Instr.index 9 (.string S) (.int .i64 (i : Int))).run Tryd.prog w = .ok (.int .u8 (byteAt S i : Int)) w) := Lib.hid (fun i hi => index_any S i (by omega))
  rw [HC.out] at h64 ⊢
  have hd : decide ((64 : Int) < (c : Int)) = false := by simp; omega
  have hc : c ≤ 64 := by omega
  obtain ⟨i0, hi, hz0, hz1, hz2⟩ := info_parts infoI
  have HI := Lib.hid hi
  have HZ0 := Lib.hid hz0
  have HZ1 := Lib.hid hz1
  have HZ2 := Lib.hid hz2
  clear hi hz0 hz1 hz2
  have H63 : Hid (c ≤ maxLen) := Lib.hid (by unfold maxLen; omega)
  have HBY : Hid (i0.bytes * c ≤ 281474976710656) := Lib.hid (by rw [HZ2.out]; omega)
  have HBH : Hid (∀ n : Nat, n ≤ 64 → ∀ w, Calls Tryd.prog 20 #[.int .i64 (n : Int)] w fun e w' => e = .returned (.int .i64 (1 + (n : Int) * 2)) ∧ w = w') := Lib.hid (fun n hn w => behind_any n w (by omega))
  go_enter Tryd.func19, Tryd.ntmps19
  go_wp2_with (refine wpList_make_full _ rfl _ _ 48 rfl w.heap.size 3 i0 (.int .i64 0) 1 Tryd.underlying48 HI.out HZ0.out HZ1.out .i64 .i64 _ _ c rfl rfl rfl rfl HBY.out H63.out (Nat.le_refl _) ?_; intro w1 hown hgrow; have HS0 : Hid (Szs w w1 S w.heap.size c 0) := Lib.hid ⟨(Below.refl _ _).grown hgrow (Nat.le_refl _) (fun k e => by cases e), by simp only [Value.cells, Nat.mul_one] at hown; rw [rowI_zero S c] at hown; exact base0 hown, Nat.le_refl _⟩; clear hown hgrow)
  generalize hb : w.heap.size = b at *
  clear h0 hd
  go_loopw [6, 7, 17] (fun _ _ iv wr => ∃ j : Nat, j ≤ c ∧ iv = .int .i64 (j : Int) ∧ Hid (Szs w wr S b c j)) (fun _ _ iv _ => c - (intOf iv).toNat)
  case atStart => exact ⟨0, Nat.zero_le _, by go_num, HS0⟩
  case round =>
    obtain ⟨j, hj, rfl, hr⟩ := hrel
    clear HS0
    by_cases hlt : j < c
    · have HB1 := Lib.hid (HBH.out j (by omega))
      obtain ⟨p, HP⟩ : ∃ p : Nat, Hid (p = 1 + 2 * j) := ⟨_, Lib.hid rfl⟩
      have hp : p ≤ 129 := by have := HP.out; omega
      have x1 := HIX.out p (by omega)
      have x2 := HIX.out (p + 1) (by omega)
      rw [Int.natCast_add, Int.natCast_one] at x2
      have hb1 := byteAt_lt S p
      have hb2 := byteAt_lt S (p + 1)
      have HSZ : Hid (szA S j = byteAt S p * 256 + byteAt S (p + 1)) := Lib.hid (by unfold szA; rw [HP.out, show 1 + 2 * j + 1 = 2 + 2 * j by omega])
      have hcell := hr.out.row.cellAt j (by omega)
      have hfz := hr.out.row.frozenAt j
      rw [rowI_get _ _ _ _ hlt] at hcell
      have hs := (hr.out.row.stored j (.int .i64 (szA S j : Int))).1
      rw [rowI_set _ _ _ hlt] at hs
      have HR : Hid (Szs w (wr.setCell ⟨b, j, none⟩ (.int .i64 (szA S j : Int))) S b c (j + 1)) := Lib.hid ⟨hr.out.below.setCell (p := ⟨b, j, none⟩) hr.out.high _, hs, hr.out.high⟩
      rw [HSZ.out] at HR
      rw [Int.natCast_add, Int.natCast_mul] at HR
      generalize byteAt S p = m at *
      generalize byteAt S (p + 1) = n at *
      have hor := or_byte m n hb1 hb2
      have hor2 := or_byte2 m n hb1 hb2
      have HPI : Hid ((1 : Int) + (j : Int) * 2 = (p : Int)) := Lib.hid (by rw [HP.out]; omega)
      have hjc : (j : Int) < (c : Int) := by omega
      clear HIX hs hr HBH
      go_wp2_with (go_at_call 20; refine (HB1.out _).mono ?_; rintro e w1 ⟨rfl, rfl⟩; rw [HPI.out])
      go_region
      all_goals
        go_wp2_with fail
        go_roundw
        case rel => exact ⟨j + 1, by omega, by go_num, by first | exact HR | exact Lib.hid HR.out.drew⟩
        case measure => simp [intOf]; omega
    · obtain rfl : j = c := by omega
      have HBL : Hid (Below w.heap.size w wr) := Lib.hid hr.out.below
      have HRR := hr
      rcases Nat.eq_zero_or_pos j with h0 | h0
      · subst h0
        have hd : decide ((0 : Int) = 0) = true := rfl
        go_wp2_with fail
        go_quiet (fail)
        go_wp2_with fail
        go_ret2
        exact ⟨_, rfl, HRR.out.drewN _⟩
      · have hd : ((j : Int) == 0) = false := by simp; omega
        have hcell := hr.out.row.cellAt (j - 1) (by omega)
        rw [rowI_get _ _ _ _ (by omega)] at hcell
        go_wp2_with fail
        go_quiet (fail)
        go_wp2_with fail
        go_ret2
        refine ⟨_, ?_, HRR.out.drewN _⟩
        have e1 : (!decide (0 < j ∧ szA S (j - 1) = 0)) = decide (0 < szA S (j - 1)) := by
          by_cases h2 : szA S (j - 1) = 0
          · rw [h2]; simp [h0]
          · have h3 : 0 < szA S (j - 1) := by omega
            simp [h2, h3]
        rw [e1]
        rfl
end Go.Proofs.YtldkmkgkllgckaaDoor
