/- Texts BFit to Big of this seat, laid into one. -/
import Derived.Laws.CopyOwn
import Derived.RangeFuncNested
import Derived.RangeFuncBound
import Derived.RangeFuncCalls
import Derived.RangeFuncLeaves
import Derived.RangeFuncBox
import Derived.Shelf.Abstract
import Derived.Shelf.RegionOpen
import Derived.WalkKit
import Derived.OwnWalkIn
import Derived.TacticsInMore
import Derived.LoopNIn
import Derived.LoopIn
import Derived.Test.YthcnofdihigohaaGreatM01
section
/- The set of a size that is made of a copy of bytes. -/
set_option maxRecDepth 20000
namespace Go.Proofs.YthcnofdihigohaaGreat.Bi
open Go.RowKit

theorem byt_cut (f : Nat → Bool) (n : Nat) : byt f (n / 8) % 2 ^ (n % 8) = byt (cut n f) (n / 8) := by
  apply Nat.eq_of_testBit_eq
  intro k
  rw [Nat.testBit_mod_two_pow, byt_bit, byt_bit]
  unfold cut
  by_cases hk : k < 8
  · rw [decide_eq_true hk, Bool.true_and, Bool.true_and]
    by_cases h : k < n % 8
    · rw [decide_eq_true h, decide_eq_true (show 8 * (n / 8) + k < n by omega)]
    · rw [decide_eq_false h, decide_eq_false (show ¬ 8 * (n / 8) + k < n by omega), Bool.false_and]
  · rw [decide_eq_false hk]; simp
theorem rowF_cut {f : Nat → Bool} {n : Nat} (h : n % 8 ≠ 0) : (rowF f (need n)).set (need n - 1) (byt f (need n - 1) % 2 ^ (n % 8)) = rowF (cut n f) (need n) := by
  have hm : need n - 1 = n / 8 := by unfold need; omega
  have hn : n / 8 < need n := by unfold need; omega
  rw [hm, byt_cut]
  refine getD_ext (by simp [rowF_len]) fun j hj => ?_
  rw [List.length_set, rowF_len] at hj
  rw [rowF_getD _ _ _ hj, List.getD_eq_getElem?_getD, List.getElem?_set]
  by_cases h : n / 8 = j
  · subst h; simp [rowF_len, hj]
  · rw [if_neg h, ← List.getD_eq_getElem?_getD, rowF_getD _ _ _ hj]
    refine byt_congr fun i hi => ?_
    unfold cut
    rw [decide_eq_true (show 8 * j + i < n by unfold need at hj; omega), Bool.true_and]
theorem rowF_cut0 {f : Nat → Bool} {n : Nat} (h : n % 8 = 0) : rowF f (need n) = rowF (cut n f) (need n) := by
  refine rowF_congr fun i hi => ?_
  unfold cut
  rw [decide_eq_true (show i < n by unfold need at hi; omega), Bool.true_and]
/-- What copying leaves in a row of zeros. -/
theorem copied_row (bs : List Nat) (m : Nat) (hd : ∀ x ∈ bs, x < 256) : bs.take m ++ (List.replicate m 0).drop (bs.take m).length = rowF (trs bs) m := by
  refine getD_ext (by rw [rowF_len]; simp; omega) fun j hj => ?_
  have hl : (bs.take m ++ (List.replicate m 0).drop (bs.take m).length).length = m := by simp; omega
  rw [hl] at hj
  rw [rowF_getD _ _ _ hj]
  have hg : bs.getD j 0 < 256 := by
    rw [List.getD_eq_getElem?_getD]
    cases e : bs[j]? with
    | none => decide
    | some x => exact hd x (List.mem_of_getElem? e)
  rw [byt_trs _ _ hg]
  by_cases h : j < (bs.take m).length
  · rw [List.getD_eq_getElem?_getD, List.getElem?_append_left h, ← List.getD_eq_getElem?_getD, getD_take _ _ _ hj]
  · rw [List.getD_eq_getElem?_getD, List.getElem?_append_right (by omega), List.getElem?_drop, List.getElem?_replicate]
    have h2 : bs.length ≤ j := by rw [List.length_take] at h; omega
    rw [List.getD_eq_getElem?_getD, List.getElem?_eq_none h2]
    split <;> rfl
theorem zeros_of (n : Nat) : (madeCells #[Value.int .u8 0] n).toList = u8s (List.replicate n 0) := by
  rw [toList_madeCells_one]
  unfold u8s
  rw [List.map_replicate]; rfl
theorem u8s_take (bs : List Nat) (m : Nat) : (u8s bs).take m = u8s (bs.take m) := by unfold u8s; rw [List.map_take]
theorem u8s_drop (bs : List Nat) (m : Nat) : (u8s bs).drop m = u8s (bs.drop m) := by unfold u8s; rw [List.map_drop]
set_option maxRecDepth 20000 in
set_option maxHeartbeats 1600000 in
theorem fit_any (n : Nat) (p : Option Addr) (k c : Nat) (bs : List Nat) (w : World) (hn : n ≤ 2048) (hk : k ≤ 140737488351232) (hB : Bys w p k bs) :
    Calls Tryz.prog 113 #[.int .i64 (n : Int), .slice p k c] w fun e w' => (∃ g b, e = .returned (.pointer (some ⟨g, 0, none⟩)) ∧ w.heap.size ≤ g ∧ w.heap.size ≤ b ∧ Sat w' g b n (cut n (trs bs))) ∧ Below w.heap.size w w' := by
  obtain ⟨m, hm⟩ : ∃ m, Hid (need n = m) := ⟨_, Lib.hid rfl⟩
  have hm2 : m ≤ 256 := by rw [← hm.out]; exact need_le hn
  obtain ⟨i0, hi, hz0, hz1, hz2⟩ := info_parts Tryz.info5
  obtain ⟨C0, HC⟩ : ∃ C0, Hid (madeCells (Value.int IntKind.u8 0).cells m = C0) := ⟨_, Lib.hid rfl⟩
  have HCl : Hid (C0.toList = u8s (List.replicate m 0)) := Lib.hid (by rw [← HC.out]; exact zeros_of m)
  have HCs : Hid (C0.size = m) := by rw [← HC.out]; exact Lib.hid (size_madeCells _ _)
  have hmk : ∀ w : World, (Instr.makeSlice 94 (.int .i64 (m : Int)) (.int .i64 (m : Int))).run Tryz.prog w = .ok (.slice (some ⟨w.heap.size, 0, none⟩) m m) (w.alloc (.cells C0 5)) := fun w => by
    have h := run_make (P := Tryz.prog) w 94 5 i0 _ Tryz.underlying94 hi hz0 .i64 .i64 m m (by omega) (by omega) (by rw [hz2]; omega) (by omega)
    rw [hz1, Int.toNat_natCast, Nat.mul_one, HC.out] at h
    exact h
  have HB := Lib.hid hB
  clear hB hi hz0 hz1 hz2
  have HL : Hid ((u8s (bs.take m)).length = k.min m) := Lib.hid (by rw [u8s_len, List.length_take, HB.out.len]; exact Nat.min_comm _ _)
  have hl0 : (Tryz.prog.info? 5).map (·.size) = some 1 := by kernel_rfl
  have HP := Lib.hid hl0
  clear hl0
  have K1 : Hid ((w.alloc (.cells C0 5)).heap[w.heap.size]? = some (.cells C0.toList.toArray 5 (0, 0))) := Lib.hid (by show (w.heap.push _)[w.heap.size]? = _; simp)
  have K5 : Hid (Below w.heap.size w (w.alloc (.cells C0 5))) := Lib.hid ((Below.refl _ _).alloc (Nat.le_refl _) _)
  have K3 : Hid (0 < (u8s (bs.take m)).length → ∃ ad, p = some ad ∧ ∀ j v, (u8s (bs.take m))[j]? = some v → (w.alloc (.cells C0 5)).cell? (ad.add j) = some v) :=
    Lib.hid fun h => by
      have h0 : 0 < k := by rw [HL.out] at h; rcases Nat.eq_zero_or_pos k with e | e
                            · subst e; simp [Nat.min] at h
                            · exact e
      obtain ⟨ad, e, hc⟩ := (HB.out.below K5.out).cells h0
      refine ⟨ad, e, fun j v hv => hc j v ?_⟩
      rw [← u8s_take, List.getElem?_take] at hv
      split at hv
      · exact hv
      · cases hv
  have K4 : Hid (0 + (u8s (bs.take m)).length ≤ C0.toList.length) := Lib.hid (by rw [HCl.out, u8s_len, u8s_len, List.length_take, List.length_replicate]; omega)
  have HNEED : Hid (∀ w, Calls Tryz.prog 141 #[.int .i64 (n : Int)] w fun e w' => e = .returned (.int .i64 (m : Int)) ∧ w = w') := Lib.hid fun w => by rw [← hm.out]; exact need_any n w (by omega)
  clear hm2
  go_enter Tryz.func113, Tryz.ntmps113
  go_wp2_with (first
    | (go_at_call 141; refine (HNEED.out _).mono ?_; rintro e w7 ⟨rfl, rfl⟩)
    | (with_reducible refine wpList_copy_splice (w := w.alloc (.cells C0 5)) rfl (.tmp 10) (.tmp 11) 94 94 rfl 5 Tryz.underlying94 HP.out (some ⟨w.heap.size, 0, none⟩) p m m k c rfl rfl w.heap.size 0 C0.toList 5 K1.out (u8s (bs.take m)) HL.out (fun h => ⟨rfl, K3.out h⟩) K4.out (u8s_one _) w.heap.size w K5.out (Nat.le_refl _) ?_))
  intro w2 hheap hb2
  have hm2 : m ≤ 256 := by rw [← hm.out]; exact need_le hn
  have HO : Hid (Row5 w2 w.heap.size m (rowF (trs bs) m)) := Lib.hid (by
    rw [← copied_row bs m HB.out.dig]
    refine ⟨by rw [u8s_len, List.length_append, List.length_drop, List.length_replicate, List.length_take]; omega, .inr ⟨w.heap.size, m, _, rfl, Nat.zero_le _, hheap.out, Nat.le_refl _, by unfold maxLen; omega, ?_, ?_⟩⟩
    · rw [List.size_toArray, length_splice _ _ _ K4.out, Array.length_toList, HCs.out, Nat.mul_one]
    · show List.take (m * 1) (splice C0.toList 0 (u8s (bs.take m))) = _
      rw [Nat.mul_one, HCl.out]
      unfold splice
      rw [List.take_zero, List.nil_append, Nat.zero_add, u8s_len, u8s_drop, ← u8s_append, List.take_of_length_le (by rw [u8s_len, List.length_append, List.length_drop, List.length_replicate, List.length_take]; omega)])
  have HB2 := Lib.hid hb2
  clear hheap hb2 hm2 K1 K3 K4 K5 HC HCl HCs hmk HL
  go_upto_if 16 with fail
  go_cut [6] (fun _ wx => Hid (Row5 wx w.heap.size m (rowF (cut n (trs bs)) m) ∧ Below w.heap.size w wx))
  case first =>
    by_cases h0 : n % 8 = 0
    · have hd : decide ((0 : Int) < (n : Int) % 8) = false := decide_eq_false (by omega)
      have HF : Hid (rowF (trs bs) m = rowF (cut n (trs bs)) m) := Lib.hid (by rw [← hm.out]; exact rowF_cut0 h0)
      go_wp2_with fail
      go_meet
      exact Lib.hid ⟨by rw [← HF.out]; exact HO.out, HB2.out⟩
    · have hd : decide ((0 : Int) < (n : Int) % 8) = true := decide_eq_true (by omega)
      obtain ⟨q, hq⟩ : ∃ q, m = q + 1 := ⟨m - 1, by have := hm.out; unfold need at this; omega⟩
      have HF : Hid ((rowF (trs bs) m).set q (byt (trs bs) q % 2 ^ (n % 8)) = rowF (cut n (trs bs)) m) := Lib.hid (by
        have h := rowF_cut (f := trs bs) (n := n) h0
        rw [hm.out, show m - 1 = q by omega] at h
        exact h)
      have hcell := HO.out.cell q (by omega)
      rw [rowF_getD _ _ _ (by omega)] at hcell
      have hfz := HO.out.fz q
      have e : (n : Int) % 8 = ((n % 8 : Nat) : Int) := by omega
      have hr : n % 8 < 8 := Nat.mod_lt _ (by decide)
      rw [e] at hd ⊢
      have hp : 2 ^ (n % 8) < 256 := Nat.lt_of_lt_of_le (Nat.pow_lt_pow_right (by decide) hr) (by decide)
      have hp0 : 0 < 2 ^ (n % 8) := Nat.pow_pos (by decide)
      have h8 : ∀ r : Fin 8, (2 : Int) ^ r.val % 256 = ((2 ^ r.val : Nat) : Int) := by decide
      have hsh := h8 ⟨n % 8, hr⟩
      have hmin : min (n % 8) 8 = n % 8 := Nat.min_eq_left (by omega)
      have hand : bits .and .u8 (byt (trs bs) q : Int) ((2 ^ (n % 8) - 1 : Nat) : Int) = ((byt (trs bs) q % 2 ^ (n % 8) : Nat) : Int) := by
        rw [u8_and_nat _ _ (byt_lt _ _) (by omega), Nat.and_two_pow_sub_one_eq_mod]
      have hi1 : (m : Int) - 1 = (q : Int) := by omega
      have hqi : (q : Int) ≤ 256 := by have := need_le hn; have := hm.out; omega
      have hi2 : IntKind.i64.wrap ((m : Int) - 1) = (q : Int) := by rw [IntKind.wrap_i64, hi1]; omega
      have hi3 : IntKind.i64.wrap (q : Int) = (q : Int) := by rw [IntKind.wrap_i64]; omega
      have hi4 : wrap64 (q : Int) = (q : Int) := by unfold wrap64; omega
      have hqm : q < m := by omega
      have HP2 := HO.out.put q (byt (trs bs) q % 2 ^ (n % 8))
      rw [HF.out] at HP2
      have HPP := Lib.hid HP2
      clear HP2 h8
      simp only at hsh
      generalize byt (trs bs) q % 2 ^ (n % 8) = y2 at *
      generalize byt (trs bs) q = y at *
      generalize hz : 2 ^ (n % 8) = z at *
      have hs1 : ((z : Int) - 1) % 256 = ((z - 1 : Nat) : Int) := by omega
      have hs2 : IntKind.u8.wrap ((z : Int) - 1) = ((z - 1 : Nat) : Int) := by rw [IntKind.wrap_u8']; omega
      have hs3 : (z : Int) - 1 = ((z - 1 : Nat) : Int) := by omega
      generalize z - 1 = z1 at *
      clear hp hp0 hr e hq hz
      generalize n % 8 = r at *
      go_wp2_with fail
      go_region
      all_goals
        go_wp2_with fail
        go_meet
        exact Lib.hid ⟨HPP.out.below (Below.refl _ _).drew, ((HB2.out.setCell (p := ⟨w.heap.size, q, none⟩) (Nat.le_refl _) _)).drew⟩
  case rest =>
    have HR := hcut
    clear hcut
    go_wp2_with fail
    go_ret
    have hb3 : Below wc.heap.size wc (wc.alloc (.cells #[.int .i64 (n : Int), .slice (some ⟨w.heap.size, 0, none⟩) m m] 96)) := (Below.refl _ _).alloc (Nat.le_refl _) _
    have hsz := HR.out.2.size
    have hlt := HR.out.1.lt
    refine ⟨⟨wc.heap.size, w.heap.size, rfl, hsz, Nat.le_refl _, hn, cut_sub _ _, by omega, ?_, ?_⟩, HR.out.2.alloc hsz _⟩
    · rw [hm.out]; exact heap_alloc_new wc _
    · rw [hm.out]; exact HR.out.1.below hb3
end Go.Proofs.YthcnofdihigohaaGreat.Bi
end
section
/- What New, Of and twin return. -/
set_option maxRecDepth 20000
namespace Go.Proofs.YthcnofdihigohaaGreat.Bi
open Go.RowKit

theorem trs_nil : trs [] = fun _ => false := by funext i; exact trs_far (by simp)
theorem cut_false (n : Nat) : cut n (fun _ => false) = fun _ => false := by funext i; unfold cut; simp
theorem new_yes (n : Nat) (w : World) (hn : n ≤ 2048) :
    Calls Tryz.prog 78 #[.int .i64 (n : Int)] w fun e w' => (∃ g b, e = .returned (.tuple #[.pointer (some ⟨g, 0, none⟩), .int .i64 0]) ∧ w.heap.size ≤ g ∧ w.heap.size ≤ b ∧ Sat w' g b n (fun _ => false)) ∧ Below w.heap.size w w' := by
  have HF := Lib.hid (fun w => fit_any n none 0 0 [] w hn (by omega) (Bys.zero w none))
  rw [trs_nil, cut_false] at HF
  have HM : Hid (∀ w, Calls Tryz.prog 112 #[.int .i64 (n : Int)] w fun e w' => e = .returned (.bool true) ∧ w = w') := Lib.hid fun w => by
    have h := may_any (n : Int) w
    rwa [decide_eq_true (show (0 : Int) ≤ (n : Int) by omega), decide_eq_true (show (n : Int) ≤ 2048 by omega)] at h
  clear hn
  go_enter Tryz.func78, Tryz.ntmps78
  go_wp2_with (first
    | (go_at_call 112; refine (HM.out _).mono ?_; rintro e w7 ⟨rfl, rfl⟩)
    | (go_at_call 113; refine (HF.out _).mono ?_; rintro e w7 ⟨⟨g, b, rfl, h1, h2, hS⟩, hb⟩))
  go_ret2
  exact ⟨⟨g, b, rfl, h1, h2, hS⟩, hb⟩
theorem may_no {x : Int} (h : ¬ (0 ≤ x ∧ x ≤ 2048)) (w : World) : Calls Tryz.prog 112 #[.int .i64 x] w fun e w' => e = .returned (.bool false) ∧ w = w' := by
  have h2 := may_any x w
  have e : (decide (0 ≤ x) && decide (x ≤ 2048)) = false := by
    by_cases h0 : 0 ≤ x
    · rw [decide_eq_false (show ¬ x ≤ 2048 by omega), Bool.and_false]
    · rw [decide_eq_false h0, Bool.false_and]
  rwa [e] at h2
theorem new_no (x : Int) (w : World) (h : ¬ (0 ≤ x ∧ x ≤ 2048)) : Calls Tryz.prog 78 #[.int .i64 x] w fun e w' => e = .returned (.tuple #[.pointer none, .int .i64 1]) ∧ w = w' := by
  have HM := Lib.hid (may_no h)
  clear h
  go_enter Tryz.func78, Tryz.ntmps78
  go_wp2_with (go_at_call 112; refine (HM.out _).mono ?_; rintro e w7 ⟨rfl, rfl⟩)
  go_ret2
  exact ⟨rfl, rfl⟩
/-- Why there is no set of these bytes; 0: there is one. -/
def ofE (x : Int) (bs : List Nat) : Int :=
  if ¬ (0 ≤ x ∧ x ≤ 2048) then 1 else if need x.toNat < bs.length then 2 else if bs.length < need x.toNat then 3
  else if rowF (cut x.toNat (trs bs)) (need x.toNat) = bs then 0 else 4
/-- What Of tells of it. -/
def OfR (W w' : World) (x : Int) (bs : List Nat) (v : Value) : Prop :=
  (ofE x bs = 0 ∧ ∃ g b, v = .pointer (some ⟨g, 0, none⟩) ∧ W.heap.size ≤ g ∧ W.heap.size ≤ b ∧ Sat w' g b x.toNat (trs bs)) ∨ (ofE x bs ≠ 0 ∧ v = .pointer none)
theorem cut_trs {n : Nat} {bs : List Nat} (hl : bs.length = need n) (h : rowF (cut n (trs bs)) (need n) = bs) : cut n (trs bs) = trs bs := by
  funext i
  by_cases hi : i < n
  · unfold cut; rw [decide_eq_true hi, Bool.true_and]
  · have h1 : cut n (trs bs) i = false := by unfold cut; rw [decide_eq_false hi]; rfl
    rw [h1]
    by_cases h2 : i < 8 * need n
    · have h3 := trs_rowF (f := cut n (trs bs)) h2
      rw [h, h1] at h3; exact h3.symm
    · exact (trs_far (by rw [hl]; omega)).symm
set_option maxHeartbeats 800000 in
theorem of_any (x : Int) (p : Option Addr) (k c : Nat) (bs : List Nat) (w : World) (hk : k ≤ 140737488351232) (hB : Bys w p k bs) :
    Calls Tryz.prog 135 #[.int .i64 x, .slice p k c] w fun e w' => (∃ v, e = .returned (.tuple #[v, .int .i64 (ofE x bs)]) ∧ OfR w w' x bs v) ∧ Below w.heap.size w w' := by
  have hl := hB.len
  by_cases hin : 0 ≤ x ∧ x ≤ 2048
  · obtain ⟨n, rfl⟩ := Int.eq_ofNat_of_zero_le hin.1
    have hn : n ≤ 2048 := by omega
    have HM : Hid (∀ w, Calls Tryz.prog 112 #[.int .i64 (n : Int)] w fun e w' => e = .returned (.bool true) ∧ w = w') := Lib.hid fun w => by
      have h := may_any (n : Int) w
      rwa [decide_eq_true (show (0 : Int) ≤ (n : Int) by omega), decide_eq_true (show (n : Int) ≤ 2048 by omega)] at h
    have HN := Lib.hid (fun w => need_any n w (by omega))
    by_cases h1 : need n < k
    · have hE : ofE (n : Int) bs = 2 := by unfold ofE; rw [if_neg (not_not_intro hin), if_pos (by rw [Int.toNat_natCast, hl]; exact h1)]
      have hd : decide ((need n : Int) < (k : Int)) = true := decide_eq_true (by omega)
      have hdn : decide (need n < k) = true := decide_eq_true h1
      rw [hE]
      have HE := Lib.hid hE
      clear hin hn hB hk hE h1
      go_enter Tryz.func135, Tryz.ntmps135
      go_wp2_with (first
        | (go_at_call 112; refine (HM.out _).mono ?_; rintro e w7 ⟨rfl, rfl⟩)
        | (go_at_call 141; refine (HN.out _).mono ?_; rintro e w7 ⟨rfl, rfl⟩))
      go_ret2
      exact ⟨⟨_, rfl, .inr ⟨by rw [HE.out]; decide, rfl⟩⟩, Below.refl _ _⟩
    · have hd : decide ((need n : Int) < (k : Int)) = false := decide_eq_false (by omega)
      have hdn : decide (need n < k) = false := decide_eq_false h1
      by_cases h2 : k < need n
      · have hE : ofE (n : Int) bs = 3 := by unfold ofE; rw [if_neg (not_not_intro hin), if_neg (by rw [Int.toNat_natCast, hl]; exact h1), if_pos (by rw [Int.toNat_natCast, hl]; exact h2)]
        have hd2 : decide ((k : Int) < (need n : Int)) = true := decide_eq_true (by omega)
        have hd2n : decide (k < need n) = true := decide_eq_true h2
        rw [hE]
        have HE := Lib.hid hE
        clear hin hn hB hk hE h1 h2
        go_enter Tryz.func135, Tryz.ntmps135
        go_wp2_with (first
          | (go_at_call 112; refine (HM.out _).mono ?_; rintro e w7 ⟨rfl, rfl⟩)
          | (go_at_call 141; refine (HN.out _).mono ?_; rintro e w7 ⟨rfl, rfl⟩))
        go_ret2
        exact ⟨⟨_, rfl, .inr ⟨by rw [HE.out]; decide, rfl⟩⟩, Below.refl _ _⟩
      · have hd2 : decide ((k : Int) < (need n : Int)) = false := decide_eq_false (by omega)
        have hd2n : decide (k < need n) = false := decide_eq_false h2
        have hkn : k = need n := by omega
        have HF := Lib.hid (fit_any n p k c bs w hn hk hB)
        have HB := Lib.hid hB
        by_cases h3 : rowF (cut n (trs bs)) (need n) = bs
        · have hE : ofE (n : Int) bs = 0 := by unfold ofE; rw [if_neg (not_not_intro hin), if_neg (by rw [Int.toNat_natCast, hl]; exact h1), if_neg (by rw [Int.toNat_natCast, hl]; exact h2), if_pos (by rw [Int.toNat_natCast]; exact h3)]
          have HE := Lib.hid hE
          have HC := Lib.hid (cut_trs (by omega) h3)
          have H3 := Lib.hid (decide_eq_true h3)
          rw [hE]
          clear hin hn hB hk hE h1 h2 h3 hkn
          go_enter Tryz.func135, Tryz.ntmps135
          go_wp2_with (first
            | (go_at_call 112; refine (HM.out _).mono ?_; rintro e w7 ⟨rfl, rfl⟩)
            | (go_at_call 141; refine (HN.out _).mono ?_; rintro e w7 ⟨rfl, rfl⟩)
            | (go_at_call 113; refine HF.out.mono ?_; rintro e w7 ⟨⟨g, b, rfl, hg1, hg2, hS⟩, hb⟩; have l1 := hS.c1)
            | (go_at_call 137; refine (equal_any _ _ _ _ _ _ _ _ _ hS.bys (HB.out.below hb)).mono ?_; rintro e w8 ⟨rfl, rfl⟩; rw [H3.out]))
          go_ret2
          exact ⟨⟨_, rfl, .inl ⟨HE.out, g, b, rfl, hg1, hg2, by rw [Int.toNat_natCast, ← HC.out]; exact hS⟩⟩, hb⟩
        · have hE : ofE (n : Int) bs = 4 := by unfold ofE; rw [if_neg (not_not_intro hin), if_neg (by rw [Int.toNat_natCast, hl]; exact h1), if_neg (by rw [Int.toNat_natCast, hl]; exact h2), if_neg (by rw [Int.toNat_natCast]; exact h3)]
          have HE := Lib.hid hE
          have H3 := Lib.hid (decide_eq_false h3)
          rw [hE]
          clear hin hn hB hk hE h1 h2 h3 hkn
          go_enter Tryz.func135, Tryz.ntmps135
          go_wp2_with (first
            | (go_at_call 112; refine (HM.out _).mono ?_; rintro e w7 ⟨rfl, rfl⟩)
            | (go_at_call 141; refine (HN.out _).mono ?_; rintro e w7 ⟨rfl, rfl⟩)
            | (go_at_call 113; refine HF.out.mono ?_; rintro e w7 ⟨⟨g, b, rfl, hg1, hg2, hS⟩, hb⟩; have l1 := hS.c1)
            | (go_at_call 137; refine (equal_any _ _ _ _ _ _ _ _ _ hS.bys (HB.out.below hb)).mono ?_; rintro e w8 ⟨rfl, rfl⟩; rw [H3.out]))
          go_ret2
          exact ⟨⟨_, rfl, .inr ⟨by rw [HE.out]; decide, rfl⟩⟩, hb⟩
  · have HM := Lib.hid (may_no hin)
    have hE : ofE x bs = 1 := by unfold ofE; rw [if_pos hin]
    rw [hE]
    have HE := Lib.hid hE
    clear hin hB hk hE
    go_enter Tryz.func135, Tryz.ntmps135
    go_wp2_with (go_at_call 112; refine (HM.out _).mono ?_; rintro e w7 ⟨rfl, rfl⟩)
    go_ret2
    exact ⟨⟨_, rfl, .inr ⟨by rw [HE.out]; decide, rfl⟩⟩, Below.refl _ _⟩
set_option maxHeartbeats 800000 in
theorem twin_any {w : World} {g b n : Nat} {f : Nat → Bool} (h : Sat w g b n f) :
    Calls Tryz.prog 86 #[.pointer (some ⟨g, 0, none⟩)] w fun e w' => (∃ g' b', e = .returned (.pointer (some ⟨g', 0, none⟩)) ∧ w.heap.size ≤ g' ∧ w.heap.size ≤ b' ∧ Sat w' g' b' n f) ∧ Below w.heap.size w w' := by
  have HF : Hid (∀ w1, Below w.heap.size w w1 → Calls Tryz.prog 113 #[.int .i64 (n : Int), .slice (some ⟨b, 0, none⟩) (need n) (need n)] w1 fun e w' => (∃ g b, e = .returned (.pointer (some ⟨g, 0, none⟩)) ∧ w1.heap.size ≤ g ∧ w1.heap.size ≤ b ∧ Sat w' g b n f) ∧ Below w1.heap.size w1 w') := Lib.hid fun w1 hb => by
    have h2 := fit_any n (some ⟨b, 0, none⟩) (need n) (need n) (rowF f (need n)) w1 h.le (by have := need_le h.le; omega) (h.below hb).bys
    have e : cut n (trs (rowF f (need n))) = f := by
      refine sub_ext (cut_sub _ _) h.sub fun i hi => ?_
      unfold cut
      rw [decide_eq_true hi, Bool.true_and, trs_rowF (by unfold need; omega)]
    rwa [e] at h2
  have l0 := h.c0
  have l1 := h.c1
  clear h
  go_enter Tryz.func86, Tryz.ntmps86
  go_upto_region 3 with fail
  go_region_with (go_at_call 113; refine (HF.out _ (by exact (Below.refl _ _).drew)).mono ?_; rintro e w7 ⟨⟨g', b', rfl, h1, h2, hS⟩, hb⟩)
  all_goals
    go_wp2_with fail
    go_ret
    exact ⟨⟨g', b', rfl, h1, h2, hS⟩, Below.trans (Below.refl _ _).drew hb⟩
end Go.Proofs.YthcnofdihigohaaGreat.Bi
end
section
/- The numbers of a set, rising, and its runs. -/
namespace Go.Proofs.YthcnofdihigohaaGreat.Bi

/-- A number from 0 to 2048. -/
def sp (j : Nat) : Fin 2049 := ⟨j % 2049, Nat.mod_lt _ (by decide)⟩
theorem sp_val {j : Nat} (h : j ≤ 2048) : (sp j).val = j := Nat.mod_eq_of_lt (by omega)
abbrev Run := Fin 2049 × Fin 2049
theorem endF_spec {f : Nat → Bool} {n j : Nat} (hs : Sub n f) (hj : j < n) (hf : f j = true) : j < endF f n j ∧ endF f n j ≤ n ∧ (∀ x, j ≤ x → x < endF f n j → f x = true) ∧ f (endF f n j) = false := by
  unfold endF
  rcases nxt_spec (gap f) n j with ⟨e, h0, h1, h2, h3, h4⟩ | ⟨h0, h4⟩
  · rw [h0]
    unfold gap at h3 h4
    have hne : e ≠ j := fun he => by rw [he, hf] at h3; cases h3
    exact ⟨by show j < e; omega, by show e ≤ n; omega, fun x hx hy => by simpa using h4 x hx hy, by simpa using h3⟩
  · rw [h0]
    unfold gap at h4
    exact ⟨hj, Nat.le_refl _, fun x hx hy => by simpa using h4 x hx hy, hs n (Nat.le_refl _)⟩
/-- The runs from a place on, so many at most. -/
def runsF (f : Nat → Bool) (n : Nat) : Nat → Nat → List Run
  | 0, _ => []
  | k + 1, s => match nxt f n s with
    | none => []
    | some j => (sp j, sp (endF f n j - j)) :: runsF f n k (endF f n j)
/-- All runs. -/
def runs (f : Nat → Bool) (n : Nat) : List Run := runsF f n (n + 1) 0
theorem runsF_none {f : Nat → Bool} {n k s : Nat} (h : nxt f n s = none) : runsF f n k s = [] := by
  cases k with
  | zero => rfl
  | succ k => show (match nxt f n s with | none => [] | some j => _) = _; rw [h]
theorem runsF_some {f : Nat → Bool} {n k s j : Nat} (h : nxt f n s = some j) : runsF f n (k + 1) s = (sp j, sp (endF f n j - j)) :: runsF f n k (endF f n j) := by
  show (match nxt f n s with | none => [] | some j => _) = _; rw [h]
/-- How many numbers runs have. -/
def total (l : List Run) : Nat := l.foldl (fun t x => t + x.2.val) 0
theorem foldl_add (l : List Run) (a : Nat) : l.foldl (fun t x => t + x.2.val) a = a + l.foldl (fun t x => t + x.2.val) 0 := by
  induction l generalizing a with
  | nil => rfl
  | cons x l ih => rw [List.foldl_cons, List.foldl_cons, ih, ih (0 + x.2.val)]; omega
theorem total_snoc (l : List Run) (x : Run) : total (l ++ [x]) = total l + x.2.val := by unfold total; rw [List.foldl_append]; rfl
theorem total_cons (x : Run) (l : List Run) : total (x :: l) = x.2.val + total l := by unfold total; rw [List.foldl_cons, foldl_add]; omega
theorem total_le (l : List Run) : total l ≤ 2048 * l.length := by
  induction l with
  | nil => exact Nat.le_refl _
  | cons x l ih => rw [total_cons, List.length_cons]; have := x.2.isLt; omega
theorem runs_total {f : Nat → Bool} {n : Nat} (hs : Sub n f) (hn : n ≤ 2048) (k s : Nat) (hk : n < s + k) (hsn : s ≤ n) : cnt f s + total (runsF f n k s) = cnt f n := by
  induction k generalizing s with
  | zero => omega
  | succ k ih =>
    rcases nxt_spec f n s with ⟨j, h0, h1, h2, h3, h4⟩ | ⟨h0, h4⟩
    · obtain ⟨e1, e2, e3, e4⟩ := endF_spec hs h2 h3
      rw [runsF_some h0, total_cons]
      show cnt f s + ((sp (endF f n j - j)).val + _) = _
      rw [sp_val (by omega), ← ih (endF f n j) (by omega) e2, cnt_all (Nat.le_of_lt e1) e3, cnt_skip h1 h4]
      omega
    · rw [runsF_none h0, ← cnt_skip (i := s) (j := n) hsn (fun x hx hy => h4 x hx hy)]; rfl
/-- The numbers of a set below a place. -/
def mems (f : Nat → Bool) (s : Nat) : List Nat := (List.range s).filter f
theorem mems_skip {f : Nat → Bool} {i j : Nat} (hij : i ≤ j) (h : ∀ x, i ≤ x → x < j → f x = false) : mems f j = mems f i := by
  induction j with
  | zero => have : i = 0 := by omega
            subst this; rfl
  | succ j ih =>
    by_cases e : i = j + 1
    · subst e; rfl
    · unfold mems
      rw [List.range_succ, List.filter_append]
      have hj := h j (by omega) (by omega)
      rw [show List.filter f [j] = [] by simp [hj], List.append_nil]
      exact ih (by omega) (fun x hx hy => h x hx (by omega))
theorem mems_hit {f : Nat → Bool} {j : Nat} (h : f j = true) : mems f (j + 1) = mems f j ++ [j] := by
  unfold mems
  rw [List.range_succ, List.filter_append, show List.filter f [j] = [j] by simp [h]]
theorem mems_len (f : Nat → Bool) (s : Nat) : (mems f s).length ≤ s := by
  unfold mems
  have := List.length_filter_le f (List.range s)
  simpa using this
theorem mems_cnt (f : Nat → Bool) (s : Nat) : (mems f s).length = cnt f s := by
  induction s with
  | zero => rfl
  | succ s ih =>
    cases h : f s with
    | true => rw [mems_hit h, List.length_append, ih]; show _ = cnt f s + (f s).toNat; rw [h]; rfl
    | false => rw [mems_skip (Nat.le_succ s) (fun x hx hy => by have : x = s := by omega
                                                                subst this; exact h), ih]; show _ = cnt f s + (f s).toNat; rw [h]; rfl
end Go.Proofs.YthcnofdihigohaaGreat.Bi
end
section
/- The functions to range over: what they tell a body, number by number, run by run. -/
set_option maxRecDepth 20000
namespace Go.Proofs.YthcnofdihigohaaGreat.Bi
open Go.RowKit Go.Shelf
attribute [local go_sem] Oper.semAt_some

/-- Three blocks lie as they lay. -/
def Three (x y z : Nat) (A B : World) : Prop := B.heap[x]? = A.heap[x]? ∧ B.heap[y]? = A.heap[y]? ∧ B.heap[z]? = A.heap[z]?
theorem Three.refl (x y z : Nat) (A : World) : Three x y z A A := ⟨rfl, rfl, rfl⟩
theorem Three.trans {x y z : Nat} {A B C : World} (h : Three x y z A B) (k : Three x y z B C) : Three x y z A C := ⟨k.1.trans h.1, k.2.1.trans h.2.1, k.2.2.trans h.2.2⟩
theorem Three.of_below {n₀ x y z : Nat} {A B : World} (h : Below n₀ A B) (hx : x < n₀) (hy : y < n₀) (hz : z < n₀) : Three x y z A B := ⟨h.block x hx, h.block y hy, h.block z hz⟩
theorem Three.fst {x y z o : Nat} {A B : World} (h : Three x y z A B) : B.cell? ⟨x, o, none⟩ = A.cell? ⟨x, o, none⟩ := World.cell?_of_block (w := A) h.1
theorem Three.sat {x g b n : Nat} {f : Nat → Bool} {A B : World} (h : Three x g b A B) (hS : Sat A g b n f) : Sat B g b n f := hS.same h.2.1 h.2.2
theorem Three.put {w : World} {x y z : Nat} (hx : x < w.heap.size) (hy : y < w.heap.size) (hz : z < w.heap.size) (W : World) (l : Nat) (o o' : Obj) (hl : w.heap.size ≤ l) (h : W.heap[l]? = some o) (h1 : o.isCells = false) (h2 : o.isWalk = false) : Three x y z W (W.putObj l o') :=
  Three.of_below (belowK_b (w := w) (Nat.le_refl _) W l o o' hl h h1 h2) hx hy hz
theorem Three.setCell {x y z g i : Nat} (hx : x ≠ g) (hy : y ≠ g) (hz : z ≠ g) (v : Value) (w : World) : Three x y z w (w.setCell ⟨g, i, none⟩ v) := ⟨Below.heap_setCell w _ v x hx, Below.heap_setCell w _ v y hy, Below.heap_setCell w _ v z hz⟩
theorem Three.drew (x y z : Nat) (w : World) : Three x y z w w.drew := ⟨rfl, rfl, rfl⟩

theorem num_none : num none = -1 := rfl
theorem num_some (j : Nat) : num (some j) = (j : Int) := rfl
set_option maxRecDepth 100000 in
set_option maxHeartbeats 2000000 in
theorem runs1_in (n : Nat) (hn : 1 ≤ n) (l Bs g b N M : Nat) (hM : N < M) (f : Nat → Bool) (J Jx : List Run → World → Prop)
    (hY : ∀ (pre : List Run) (x : Run) W, J pre W → pre.length < M → YieldAt Fence.wide (n - 1) Tryz.prog l #[.int .i64 (x.1.val : Int), .int .i64 (x.2.val : Int)] W fun e W' =>
      (e = .returned (.bool true) ∧ J (pre ++ [x]) W' ∧ Three Bs g b W W') ∨ (e = .returned (.bool false) ∧ Jx (pre ++ [x]) W'))
    (W : World) (hBs : W.cell? ⟨Bs, 0, none⟩ = some (.pointer (some ⟨g, 0, none⟩))) (hS : Sat W g b N f) (h0 : J [] W) :
    CallsIn Fence.wide n Tryz.prog 87 #[.func (.yield l) #[] #[], .pointer (some ⟨Bs, 0, none⟩)] W fun e W' => (∃ v, e = .returned v) ∧
      ((∃ ys, ys = runs f N ∧ J ys W') ∨ (∃ pre, True ∧ Jx pre W')) := by
  have hN := hS.le
  have HS := Lib.hid hS
  have HSub := Lib.hid hS.sub
  have HM0 := Lib.hid hM
  have HN := Lib.hid hN
  clear hS hM hN
  refine callsIn_of_wp Tryz.func87 rfl trivial ?_ rfl
  simp only [Tryz.ntmps87, List.size_toArray, List.length_cons, List.length_nil, Nat.reduceAdd, Nat.reduceSub, Array.replicate_succ, Array.replicate_zero, List.push_toArray, List.append_toArray, List.nil_append, List.cons_append]
  gi_wp2_with (refine ⟨trivial, ?_⟩; gi_at_call 88; refine (callsIn_wide.2 (next_any HS.out 0 (by omega))).mono ?_; rintro e w' ⟨rfl, rfl⟩)
  gi_loopw [3, 4] (fun i _ wr => ∃ (s k : Nat) (pre : List Run), s ≤ N ∧ N < s + k ∧ pre.length ≤ s ∧ i = .int .i64 (num (nxt f N s)) ∧ Hid (pre ++ runsF f N k s = runs f N) ∧ J pre wr ∧ Three Bs g b W wr)
    (fun i _ _ => (2049 - (if intOf i < 0 then 2049 else intOf i)).toNat)
  case atStart => exact ⟨0, N + 1, [], Nat.zero_le _, by omega, Nat.le_refl _, rfl, Lib.hid rfl, h0, Three.refl _ _ _ _⟩
  case round =>
    obtain ⟨s, k, pre, hs, hk, hl, rfl, HR, hJs, hnx⟩ := hrel
    rcases nxt_spec f N s with ⟨j, e0, e1, e2, e3, e4⟩ | ⟨e0, e4⟩
    · obtain ⟨k, rfl⟩ : ∃ q, k = q + 1 := ⟨k - 1, by omega⟩
      obtain ⟨x1, x2, x3, x4⟩ := endF_spec HSub.out e2 e3
      have hR2 := HR.out
      rw [runsF_some e0, ← List.singleton_append, ← List.append_assoc] at hR2
      have HR2 := Lib.hid hR2
      rw [e0, num_some]
      have hne : ((j : Int) != -1) = true := by simp
      have HB : Hid (wr.cell? ⟨Bs, 0, none⟩ = some (.pointer (some ⟨g, 0, none⟩))) := Lib.hid (hnx.fst.trans hBs)
      have hy0 := hY pre (sp j, sp (endF f N j - j)) wr hJs (by have := HM0.out; omega)
      have HNX := Lib.hid hnx
      have HS2 := Lib.hid (HNX.out.sat HS.out)
      have HEnd := Lib.hid (end_any HS2.out j (by have := HN.out; omega))
      have HL : Hid ((pre ++ [(sp j, sp (endF f N j - j))]).length ≤ endF f N j) := Lib.hid (by rw [List.length_append]; simp; omega)
      have HSZ : Hid (s ≤ j ∧ j < endF f N j ∧ endF f N j ≤ N ∧ N < endF f N j + k) := Lib.hid ⟨e1, x1, x2, by omega⟩
      dsimp only at hy0
      rw [sp_val (by have := HN.out; omega), sp_val (by have := HN.out; omega), Int.natCast_sub (by omega)] at hy0
      clear hnx e0 e1 e3 e4 x1 x2 x3 x4 hR2 hs hk hl HR
      generalize endF f N j = q at *
      generalize pre ++ [(sp j, sp (q - j))] = pre2 at *
      have hz1 : (j : Int) ≤ 2048 := by have := HN.out; omega
      have hz2 : (q : Int) ≤ 2048 := by have := HN.out; have := HSZ.out; omega
      obtain ⟨fn, tmps, assign, body, hy, hR⟩ := hy0
      have hb0 := HB.out
      gi_wp2_with (refine ⟨trivial, ?_⟩; gi_at_call 89; refine (callsIn_wide.2 HEnd.out).mono ?_; rintro e w' ⟨rfl, rfl⟩)
      refine hR.mono ?_
      rintro e W3 (⟨rfl, hJ3, hk3⟩ | ⟨rfl, hJx3⟩)
      · have hb3 : W3.cell? ⟨Bs, 0, none⟩ = some (.pointer (some ⟨g, 0, none⟩)) := hk3.fst.trans HB.out
        have HK3 := Lib.hid (HNX.out.trans hk3)
        have HS3 := Lib.hid (HK3.out.sat HS.out)
        have HNext := Lib.hid (next_any HS3.out (q : Int) (by omega))
        rw [Int.toNat_natCast] at HNext
        clear hk3 hb0
        gi_wp2_with (refine ⟨trivial, ?_⟩; gi_at_call 88; refine (callsIn_wide.2 HNext.out).mono ?_; rintro e w' ⟨rfl, rfl⟩)
        go_roundw
        case rel => exact ⟨q, k, pre2, HSZ.out.2.2.1, HSZ.out.2.2.2, HL.out, by go_num, HR2, hJ3, HK3.out⟩
        case measure =>
          have := HN.out
          have := HSZ.out
          rcases nxt_spec f N q with ⟨j2, e0, e1, e2, e3, e4⟩ | ⟨e0, e4⟩
          · rw [e0, num_some]; simp only [intOf]; (repeat' split) <;> omega
          · rw [e0, num_none]; simp only [intOf]; (repeat' split) <;> omega
      · gi_wp2
        refine bodyPost_ret (results_none rfl _ _ _) rfl ?_
        exact ⟨⟨_, rfl⟩, .inr ⟨_, trivial, hJx3⟩⟩
    · have HF : Hid (pre = runs f N) := Lib.hid (by have := HR.out; rwa [runsF_none e0, List.append_nil] at this)
      rw [e0, num_none]
      gi_wp2
      go_end0
      exact ⟨⟨_, rfl⟩, .inl ⟨_, rfl, by rw [← HF.out]; exact hJs⟩⟩
end Go.Proofs.YthcnofdihigohaaGreat.Bi
end
section
/- How many numbers a set has. -/
set_option maxRecDepth 20000
namespace Go.Proofs.YthcnofdihigohaaGreat.Bi
open Go.RowKit Go.Shelf
attribute [local go_sem] Oper.semAt_some

/-- What All, and Runs, tell of a set: a function that goes over a set by itself. -/
structure Told (W w' : World) (Bs g b n : Nat) (f : Nat → Bool) : Prop where
  l1 : W.heap.size ≤ Bs
  l2 : W.heap.size ≤ g
  l3 : W.heap.size ≤ b
  h1 : Bs < w'.heap.size
  cell : w'.cell? ⟨Bs, 0, none⟩ = some (.pointer (some ⟨g, 0, none⟩))
  sat : Sat w' g b n f
set_option maxHeartbeats 800000 in
theorem runs_any {w : World} {g b n : Nat} {f : Nat → Bool} (h : Sat w g b n f) :
    Calls Tryz.prog 54 #[.pointer (some ⟨g, 0, none⟩)] w fun e w' => (∃ Bs g' b', e = .returned (.func (.func 87) #[] #[.pointer (some ⟨Bs, 0, none⟩)]) ∧ Told w w' Bs g' b' n f) ∧ Below w.heap.size w w' := by
  have HT := Lib.hid (twin_any h)
  clear h
  go_enter Tryz.func54, Tryz.ntmps54
  go_wp2_with (go_at_call 86; refine HT.out.mono ?_; rintro e w7 ⟨⟨g', b', rfl, h1, h2, hS⟩, hb⟩)
  go_ret
  have hb2 := (Below.refl w7.heap.size w7).alloc (Nat.le_refl _) (.cells #[.pointer (some ⟨g', 0, none⟩)] 33)
  exact ⟨⟨w7.heap.size, g', b', rfl, hb.size, h1, h2, by simp, World.cell?_alloc_new w7 _ _ 0, hS.below hb2⟩, hb.alloc hb.size _⟩
theorem runs_stops (n : Nat) (hn : 1 ≤ n) (Bs g b N M : Nat) (hM : N < M) (f : Nat → Bool) (w : World) (hB : Bs < w.heap.size) (hc : w.cell? ⟨Bs, 0, none⟩ = some (.pointer (some ⟨g, 0, none⟩))) (hS : Sat w g b N f) :
    SeqStopsK Fence.wide n Tryz.prog 87 #[.pointer (some ⟨Bs, 0, none⟩)] (fun x : Run => #[Value.int .i64 (x.1.val : Int), Value.int .i64 (x.2.val : Int)]) (Three Bs g b) (fun ys => ys = runs f N) (fun _ => True) M w := fun l J Jx W hW _ _ hY h0 =>
  runs1_in n hn l Bs g b N M hM f J Jx hY W ((hW.cell (p := ⟨Bs, 0, none⟩) hB).trans hc) (hS.same (hW.block g hS.glt) (hW.block b hS.blt)) h0
/-- A box that holds a number. -/
structure Bx (w : World) (g : Nat) (v : Int) : Prop where
  cell : w.cell? ⟨g, 0, none⟩ = some (.int .i64 v)
  fz : w.frozen? ⟨g, 0, none⟩ = false
theorem Bx.own {g : Nat} (v : List Run → Int) : Own (fun (pre : List Run) W => Bx W g (v pre)) := fun _ _ _ _ hs hg hr =>
  ⟨cell_kept hs.cell hg hr, (frozen_kept hs.cell hg hr).trans hs.fz⟩
set_option maxRecDepth 100000 in
set_option maxHeartbeats 2000000 in
theorem count_any {w : World} {g b N : Nat} {f : Nat → Bool} (h : Sat w g b N f) :
    Calls Tryz.prog 21 #[.pointer (some ⟨g, 0, none⟩)] w fun e w' => e = .returned (.int .i64 (cnt f N : Int)) ∧ Below w.heap.size w w' := by
  have hN := h.le
  have HSub := Lib.hid h.sub
  have HT : Hid (∀ w1, Below w.heap.size w w1 → Calls Tryz.prog 54 #[.pointer (some ⟨g, 0, none⟩)] w1 fun e w' => (∃ Bs g' b', e = .returned (.func (.func 87) #[] #[.pointer (some ⟨Bs, 0, none⟩)]) ∧ Told w1 w' Bs g' b' N f) ∧ Below w1.heap.size w1 w') := Lib.hid fun w1 hb => runs_any (h.below hb)
  have HN := Lib.hid hN
  clear h hN
  refine (callsIn_wide (n := 5)).1 ?_
  refine callsIn_of_wp_marks Tryz.func21 rfl trivial ?_ rfl
  simp only [Tryz.ntmps21, List.size_toArray, List.length_cons, List.length_nil, Nat.reduceAdd, Nat.reduceSub, Array.replicate_succ, Array.replicate_zero, List.push_toArray, List.append_toArray, List.nil_append, List.cons_append]
  gi_wp2_with (refine ⟨trivial, ?_⟩; gi_at_call 54; refine (callsIn_wide.2 (HT.out _ ((Below.refl _ _).alloc (Nat.le_refl _) _))).mono ?_; rintro e w7 ⟨⟨Bs, g', b', rfl, hTo⟩, hb⟩)
  obtain ⟨t1, t2, t3, t4, t5, t6⟩ := hTo
  have hbB : Below w.heap.size w w7 := ((Below.refl _ _).alloc (Nat.le_refl _) (.cells #[.int .i64 0] 3)).trans (hb.mono (by simp))
  have hbx : Bx w7 w.heap.size 0 := ⟨(hb.cell (p := ⟨w.heap.size, 0, none⟩) (by simp)).trans (World.cell?_alloc_new w _ _ 0), (World.frozen?_of_block (hb.block w.heap.size (by simp))).trans (free_of_one (heap_alloc_new w _))⟩
  have hsz : w.heap.size < w7.heap.size := by have := hb.size; simp at this; omega
  have hg := t6.glt
  have hbl := t6.blt
  have n1 : Bs ≠ w.heap.size := by simp at t1; omega
  have n2 : g' ≠ w.heap.size := by simp at t2; omega
  have n3 : b' ≠ w.heap.size := by simp at t3; omega
  have HFN : Hid (total (runs f N) = cnt f N) := Lib.hid (by have := runs_total HSub.out HN.out (N + 1) 0 (by omega) (by omega); rw [← this]; show _ = 0 + _; rw [Nat.zero_add]; rfl)
  refine wpIn_rangeFunc_ownG rfl (by omega) (gf := 87) (lb := #[.pointer (some ⟨Bs, 0, none⟩)]) rfl trivial (enters_of Tryz.func87 (by kernel_rfl) rfl)
    (runs_stops 4 (by omega) Bs g' b' N (N + 1) (by omega) f w7 t4 t5 t6) Three.trans (Three.put t4 hg hbl) (Below.refl _ _) (fun _ => rfl)
    (fun pre W => Bx W w.heap.size (total pre : Int) ∧ Below w.heap.size w W)
    (fun _ _ _ => False)
    (OwnFrom.and (Own.from (Bx.own (fun pre => (total pre : Int))) _) (ownFrom_below (by omega) (by omega)))
    (fun c => ownFrom_pure _ _)
    ⟨hbx, hbB⟩
    (fun x => { tmps := #[.pointer (some ⟨g, 0, none⟩), undef, .int .i64 0, .pointer (some ⟨w.heap.size, 0, none⟩), undef, .int .i64 (x.2.val : Int), .pointer (some ⟨g, 0, none⟩), .func (.func 87) #[] #[.pointer (some ⟨Bs, 0, none⟩)], .int .i64 (x.1.val : Int), .int .i64 (x.2.val : Int), undef, undef, undef, undef], defers := [] }) ?assign ?body ?done ?stop
  case assign =>
    intro l x W K hK
    gi_wp2
    exact hK
  case body =>
    rintro l pre x W ⟨hbx2, hB2⟩ hlen
    have hc := hbx2.cell
    have hf := hbx2.fz
    have hb1 : (total pre : Int) ≤ 5000000 := by have h1 := total_le pre; have := HN.out; omega
    have hb0 : (0 : Int) ≤ (total pre : Int) := by omega
    have HTS : Hid ((total (pre ++ [x]) : Int) = (total pre : Int) + (x.2.val : Int)) := Lib.hid (by rw [total_snoc, Int.natCast_add])
    have hx1 : (x.2.val : Int) ≤ 2048 := by have := x.2.isLt; omega
    have HB2 := Lib.hid hB2
    clear hbx2 hB2 hlen
    generalize total pre = tp at *
    generalize x.2.val = xv at *
    generalize x.1.val = xu at *
    gi_wp2
    refine ⟨(KeepsOthers.setCell _ _ _).from _, Three.setCell n1 n2 n3 _ _, ⟨?_, ?_⟩, HB2.out.setCell (p := ⟨w.heap.size, 0, none⟩) (Nat.le_refl _) _⟩
    · rw [HTS.out]; exact World.cell?_setCell_same' _ _ _ (by rw [hc]; rfl)
    · rw [World.frozen?_setCell]; exact hf
  case done =>
    rintro D ys W hD rfl ⟨hbx2, hB2⟩ hK
    rw [HFN.out] at hbx2
    have hc := hbx2.cell
    clear hbx2
    have HB2 := Lib.hid (hB2.trans (belowK_b (w := w) (Nat.le_refl _) W D _ (.deferred none) (by omega) hK rfl rfl))
    have HK := Lib.hid hK
    clear hB2 hK
    gi_wp2
    refine ⟨by simp, .inl ⟨_, _, rfl, run_takeDeferred HK.out, ?_⟩⟩
    refine ⟨.int .i64 (cnt f N : Int), ?_, rfl, HB2.out⟩
    simp [results, Tryz.f21, go_sem]
  case stop =>
    rintro D cd pre W hD _ hf hK
    exact hf.elim
end Go.Proofs.YthcnofdihigohaaGreat.Bi
end
section
/- The plain mathematics of the cyclic sum: one step of its register is linear over exclusive or, and takes nothing but 0 to 0. -/
namespace Go.Proofs.YthcnofdihigohaaGreat

def poly : Nat := 3988292384
def full : Nat := 4294967295
/-- One step of the register. -/
def stp (r : Nat) : Nat := if r % 2 = 1 then (r / 2) ^^^ poly else r / 2
def stps : Nat → Nat → Nat
  | 0, r => r
  | n + 1, r => stps n (stp r)
/-- A byte is taken. -/
def eat (r c : Nat) : Nat := stps 8 (r ^^^ c)
/-- Bytes are taken. -/
def eats (r : Nat) (bs : List Nat) : Nat := bs.foldl eat r
/-- The sum behind a sum. -/
def more (s : Nat) (bs : List Nat) : Nat := full ^^^ eats (full ^^^ s) bs

theorem stp_bit (r i : Nat) : (stp r).testBit i = (r.testBit (i + 1)).xor (r.testBit 0 && poly.testBit i) := by
  unfold stp
  rw [Nat.testBit_succ, Nat.testBit_zero]
  by_cases h : r % 2 = 1
  · rw [if_pos h, Nat.testBit_xor]; simp [h]
  · rw [if_neg h]; simp [h]
theorem stp_xor (a b : Nat) : stp (a ^^^ b) = stp a ^^^ stp b := by
  apply Nat.eq_of_testBit_eq
  intro i
  rw [Nat.testBit_xor, stp_bit, stp_bit, stp_bit, Nat.testBit_xor, Nat.testBit_xor]
  cases a.testBit (i + 1) <;> cases b.testBit (i + 1) <;> cases a.testBit 0 <;> cases b.testBit 0 <;> cases poly.testBit i <;> rfl
theorem stp_zero : stp 0 = 0 := by decide
theorem stp_twice (x : Nat) : stp (2 * x) = x := by
  unfold stp; rw [if_neg (by omega)]; omega
theorem xor_lt {a b : Nat} (ha : a < 4294967296) (hb : b < 4294967296) : a ^^^ b < 4294967296 := Nat.xor_lt_two_pow (n := 32) ha hb
theorem stp_lt {r : Nat} (h : r < 4294967296) : stp r < 4294967296 := by
  unfold stp
  split
  · exact xor_lt (by omega) (by unfold poly; omega)
  · omega
theorem xor_eq_zero {a b : Nat} (h : a ^^^ b = 0) : a = b := by
  have h2 : (a ^^^ b) ^^^ b = 0 ^^^ b := by rw [h]
  rw [Nat.xor_assoc, Nat.xor_self, Nat.xor_zero, Nat.zero_xor] at h2
  exact h2
theorem stp_none {r : Nat} (h : r < 4294967296) (h0 : stp r = 0) : r = 0 := by
  unfold stp at h0
  split at h0
  · have := xor_eq_zero h0
    unfold poly at this
    omega
  · omega
theorem stps_xor (n a b : Nat) : stps n (a ^^^ b) = stps n a ^^^ stps n b := by
  induction n generalizing a b with
  | zero => rfl
  | succ n ih => show stps n (stp (a ^^^ b)) = _; rw [stp_xor, ih]; rfl
theorem stps_zero (n : Nat) : stps n 0 = 0 := by
  induction n with
  | zero => rfl
  | succ n ih => show stps n (stp 0) = 0; rw [stp_zero, ih]
theorem stps_lt (n : Nat) {r : Nat} (h : r < 4294967296) : stps n r < 4294967296 := by
  induction n generalizing r with
  | zero => exact h
  | succ n ih => exact ih (stp_lt h)
theorem stps_none (n : Nat) {r : Nat} (h : r < 4294967296) (h0 : stps n r = 0) : r = 0 := by
  induction n generalizing r with
  | zero => exact h0
  | succ n ih => exact stp_none h (ih (stp_lt h) h0)
theorem stps_add (m n r : Nat) : stps (m + n) r = stps n (stps m r) := by
  induction m generalizing r with
  | zero => rw [Nat.zero_add]; rfl
  | succ m ih => rw [Nat.add_right_comm]; exact ih _
theorem stps_up (n x : Nat) : stps n (2 ^ n * x) = x := by
  induction n generalizing x with
  | zero => show 2 ^ 0 * x = x; omega
  | succ n ih => show stps n (stp (2 ^ (n + 1) * x)) = x; rw [show 2 ^ (n + 1) * x = 2 * (2 ^ n * x) by rw [Nat.pow_succ]; ac_rfl, stp_twice, ih]
theorem stps_pow (n j : Nat) (h : j ≤ n) : stps n (2 ^ j) = stps (n - j) 1 := by
  obtain ⟨m, rfl⟩ : ∃ m, n = j + m := ⟨n - j, by omega⟩
  rw [stps_add, show 2 ^ j = 2 ^ j * 1 by omega, stps_up, show j + m - j = m by omega]

theorem eat_xor (r d c : Nat) : eat (r ^^^ d) c = eat r c ^^^ stps 8 d := by
  unfold eat
  rw [← stps_xor]; congr 1
  rw [Nat.xor_assoc, Nat.xor_comm d c, Nat.xor_assoc]
theorem eat_byte (r c e : Nat) : eat r (c ^^^ e) = eat r c ^^^ stps 8 e := by
  unfold eat
  rw [← stps_xor, Nat.xor_assoc]
theorem eats_xor (bs : List Nat) (r d : Nat) : eats (r ^^^ d) bs = eats r bs ^^^ stps (8 * bs.length) d := by
  induction bs generalizing r d with
  | nil => rfl
  | cons c bs ih =>
    show eats (eat (r ^^^ d) c) bs = eats (eat r c) bs ^^^ _
    rw [eat_xor, ih, ← stps_add, show 8 + 8 * bs.length = 8 * (c :: bs).length by simp; omega]
theorem eats_append (r : Nat) (a b : List Nat) : eats r (a ++ b) = eats (eats r a) b := List.foldl_append ..
theorem eat_lt {r c : Nat} (h : r < 4294967296) (hc : c < 256) : eat r c < 4294967296 := stps_lt 8 (xor_lt h (by omega))
theorem eats_lt {r : Nat} {bs : List Nat} (h : r < 4294967296) (hb : ∀ x ∈ bs, x < 256) : eats r bs < 4294967296 := by
  induction bs generalizing r with
  | nil => exact h
  | cons c bs ih => exact ih (eat_lt h (hb c (by simp))) fun x hx => hb x (by simp [hx])
theorem more_lt {s : Nat} {bs : List Nat} (h : s < 4294967296) (hb : ∀ x ∈ bs, x < 256) : more s bs < 4294967296 :=
  xor_lt (by decide) (eats_lt (xor_lt (by decide) h) hb)
theorem more_nil (s : Nat) : more s [] = s := by
  show full ^^^ (full ^^^ s) = s
  rw [← Nat.xor_assoc, Nat.xor_self, Nat.zero_xor]
theorem more_more (s : Nat) (a b : List Nat) : more (more s a) b = more s (a ++ b) := by
  unfold more
  rw [eats_append, ← Nat.xor_assoc full full, Nat.xor_self, Nat.zero_xor]
/-- One bit of one byte is turned. -/
theorem eats_flip (bs : List Nat) (r k j : Nat) (hk : k < bs.length) (hj : j < 8) :
    eats r (bs.set k (bs[k] ^^^ 2 ^ j)) = eats r bs ^^^ stps (8 * bs.length - (8 * k + j)) 1 := by
  induction bs generalizing r k with
  | nil => exact absurd hk (by simp)
  | cons c bs ih =>
    cases k with
    | zero =>
      show eats (eat r (c ^^^ 2 ^ j)) bs = eats (eat r c) bs ^^^ _
      rw [eat_byte, eats_xor, ← stps_add, stps_pow _ _ (by omega)]
      simp only [List.length_cons]
      rw [show 8 + 8 * bs.length - j = 8 * (bs.length + 1) - (8 * 0 + j) by omega]
    | succ k =>
      have hk' : k < bs.length := by simpa using hk
      show eats (eat r c) (bs.set k (bs[k] ^^^ 2 ^ j)) = eats (eat r c) bs ^^^ _
      rw [ih _ k hk']
      simp only [List.length_cons]
      rw [show 8 * bs.length - (8 * k + j) = 8 * (bs.length + 1) - (8 * (k + 1) + j) by omega]
/-- The four bytes of a sum, the lowest first. -/
def tailOf (s : Nat) : List Nat := [s % 256, s / 256 % 256, s / 65536 % 256, s / 16777216 % 256]
theorem four (s : Nat) (h : s < 4294967296) : s = s % 256 + 256 * (s / 256 % 256 + 256 * (s / 65536 % 256 + 256 * (s / 16777216 % 256))) := by omega
theorem plus_xor (a b : Nat) (h : a < 256) : a + 256 * b = a ^^^ 256 * b := by
  have := Nat.two_pow_add_eq_or_of_lt (i := 8) h b
  apply Nat.eq_of_testBit_eq
  intro i
  rw [show a + 256 * b = 2 ^ 8 * b + a by omega, Nat.testBit_two_pow_mul_add _ h, Nat.testBit_xor, show 256 * b = 2 ^ 8 * b from rfl, Nat.testBit_two_pow_mul]
  by_cases hi : i < 8
  · simp [hi, show ¬ i ≥ 8 by omega]
  · have : a.testBit i = false := Nat.testBit_lt_two_pow (Nat.lt_of_lt_of_le h (by rw [show (256 : Nat) = 2 ^ 8 from rfl]; exact Nat.pow_le_pow_right (by omega) (by omega)))
    simp [hi, this, show i ≥ 8 by omega]
theorem eat_rest (r a b : Nat) (h : a < 256) : stps 8 (r ^^^ (a + 256 * b)) = eat r a ^^^ b := by
  rw [plus_xor a b h, ← Nat.xor_assoc, stps_xor, show 256 * b = 2 ^ 8 * b from rfl, stps_up]; rfl
/-- Taking a sum's four bytes is taking its 32 bits at once. -/
theorem eats_tail (r s : Nat) (h : s < 4294967296) : eats r (tailOf s) = stps 32 (r ^^^ s) := by
  show eat (eat (eat (eat r (s % 256)) (s / 256 % 256)) (s / 65536 % 256)) (s / 16777216 % 256) = _
  rw [show (32 : Nat) = 8 + (8 + (8 + 8)) from rfl, stps_add, stps_add, stps_add]
  conv => rhs; rw [four s h]
  rw [eat_rest _ _ _ (by omega), eat_rest _ _ _ (by omega), eat_rest _ _ _ (by omega)]; rfl
/-- Bytes behind which their own sum lies leave one and the same register. -/
def fine (bs : List Nat) : Prop := eats full bs = stps 32 full
theorem tail_len (s : Nat) : (tailOf s).length = 4 := rfl
theorem fine_iff (a : List Nat) (s : Nat) (ha : ∀ x ∈ a, x < 256) (h : s < 4294967296) : fine (a ++ tailOf s) ↔ s = more 0 a := by
  unfold fine
  rw [eats_append, eats_tail _ _ h]
  have hl : eats full a < 4294967296 := eats_lt (by decide) ha
  constructor
  · intro he
    have h2 : stps 32 ((eats full a ^^^ s) ^^^ full) = 0 := by rw [stps_xor, he, Nat.xor_self]
    have h3 := xor_eq_zero (stps_none 32 (xor_lt (xor_lt hl h) (by decide)) h2)
    show s = full ^^^ eats (full ^^^ 0) a
    rw [Nat.xor_zero]
    have h4 : eats full a ^^^ (eats full a ^^^ s) = eats full a ^^^ full := by rw [h3]
    rw [← Nat.xor_assoc, Nat.xor_self, Nat.zero_xor] at h4
    rw [Nat.xor_comm]
    exact h4
  · intro he
    have h3 : s = full ^^^ eats full a := by rw [he]; unfold more; rw [Nat.xor_zero]
    rw [h3, Nat.xor_comm full, ← Nat.xor_assoc, Nat.xor_self, Nat.zero_xor]
/-- Bits within 32 are turned: the register at the end differs, if any is. -/
theorem burst_ne {n m : Nat} (hm : m < 4294967296) (h0 : m ≠ 0) (x : Nat) : x ^^^ stps n m ≠ x := by
  intro h
  have h2 : x ^^^ (x ^^^ stps n m) = x ^^^ x := by rw [h]
  rw [← Nat.xor_assoc, Nat.xor_self, Nat.zero_xor] at h2
  exact h0 (stps_none n hm h2)

end Go.Proofs.YthcnofdihigohaaGreat
end
section
/- Numbers in bytes, the highest first. -/
namespace Go.Proofs.YthcnofdihigohaaGreat

/-- A number in so many bytes, the highest first. -/
def be : Nat → Nat → List Nat
  | 0, _ => []
  | k + 1, n => be k (n / 256) ++ [n % 256]
theorem be_len (k n : Nat) : (be k n).length = k := by
  induction k generalizing n with
  | zero => rfl
  | succ k ih => show (be k (n / 256) ++ [n % 256]).length = _; rw [List.length_append, ih]; rfl
theorem be_dig (k n : Nat) : ∀ x ∈ be k n, x < 256 := by
  induction k generalizing n with
  | zero => intro x hx; cases hx
  | succ k ih =>
    intro x hx
    rcases List.mem_append.1 hx with h | h
    · exact ih _ x h
    · rw [List.mem_singleton.1 h]; exact Nat.mod_lt _ (by omega)
theorem be_get (k n i : Nat) (h : i < k) : (be k n).getD i 0 = n / 256 ^ (k - 1 - i) % 256 := by
  induction k generalizing n with
  | zero => exact absurd h (Nat.not_lt_zero _)
  | succ k ih =>
    show (be k (n / 256) ++ [n % 256]).getD i 0 = _
    rw [List.getD_eq_getElem?_getD]
    by_cases hi : i < k
    · rw [List.getElem?_append_left (by rw [be_len]; exact hi), ← List.getD_eq_getElem?_getD, ih _ hi, Nat.div_div_eq_div_mul, ← Nat.pow_succ']
      congr 3; omega
    · obtain rfl : i = k := by omega
      rw [List.getElem?_append_right (by rw [be_len]; exact Nat.le_refl _), be_len, Nat.sub_self, show i + 1 - 1 - i = 0 by omega, Nat.pow_zero, Nat.div_one]
      rfl
/-- The number of bytes, the highest first. -/
def val (bs : List Nat) : Nat := bs.foldl (fun n b => n * 256 + b) 0
theorem val_snoc (bs : List Nat) (b : Nat) : val (bs ++ [b]) = val bs * 256 + b := by unfold val; rw [List.foldl_append]; rfl
theorem val_be (k n : Nat) (h : n < 256 ^ k) : val (be k n) = n := by
  induction k generalizing n with
  | zero => rw [Nat.pow_zero] at h; show 0 = n; omega
  | succ k ih =>
    show val (be k (n / 256) ++ [n % 256]) = n
    rw [val_snoc, ih _ (by rw [Nat.pow_succ] at h; exact Nat.div_lt_of_lt_mul (by rw [Nat.mul_comm]; exact h))]
    omega
theorem val_lt (bs : List Nat) (h : ∀ x ∈ bs, x < 256) : val bs < 256 ^ bs.length := by
  suffices ∀ (r : List Nat), (∀ x ∈ r, x < 256) → val r.reverse < 256 ^ r.length by
    have := this bs.reverse (fun x hx => h x (List.mem_reverse.1 hx))
    rwa [List.reverse_reverse, List.length_reverse] at this
  intro r
  induction r with
  | nil => intro _; show 0 < 256 ^ 0; omega
  | cons a r ih =>
    intro hd
    rw [List.reverse_cons, val_snoc, List.length_cons, Nat.pow_succ]
    have h1 := ih (fun x hx => hd x (by simp [hx]))
    have h2 := hd a (by simp)
    omega
theorem be_val (bs : List Nat) (h : ∀ x ∈ bs, x < 256) : be bs.length (val bs) = bs := by
  suffices ∀ (r : List Nat), (∀ x ∈ r, x < 256) → be r.length (val r.reverse) = r.reverse by
    have := this bs.reverse (fun x hx => h x (List.mem_reverse.1 hx))
    rwa [List.reverse_reverse, List.length_reverse] at this
  intro r
  induction r with
  | nil => intro _; rfl
  | cons a r ih =>
    intro hd
    have h2 := hd a (by simp)
    rw [List.reverse_cons, val_snoc]
    show be r.length ((val r.reverse * 256 + a) / 256) ++ [(val r.reverse * 256 + a) % 256] = _
    rw [show (val r.reverse * 256 + a) / 256 = val r.reverse by omega, show (val r.reverse * 256 + a) % 256 = a by omega, ih (fun x hx => hd x (by simp [hx]))]
theorem be_inj {k n m : Nat} (hn : n < 256 ^ k) (hm : m < 256 ^ k) (h : be k n = be k m) : n = m := by
  rw [← val_be k n hn, ← val_be k m hm, h]
theorem be_zero (k : Nat) : be k 0 = List.replicate k 0 := by
  induction k with
  | zero => rfl
  | succ k ih => show be k (0 / 256) ++ [0 % 256] = _; rw [show 0 / 256 = 0 from rfl, ih, List.replicate_succ']
theorem be_one {n : Nat} (k : Nat) : be (k + 1) n = be k (n / 256) ++ [n % 256] := rfl
theorem val_zeros (k : Nat) : val (List.replicate k 0) = 0 := by
  rw [← be_zero]; exact val_be k 0 (Nat.pow_pos (by omega))
end Go.Proofs.YthcnofdihigohaaGreat
end
