/- Texts BFit to TGet of this seat, laid into one. -/
import Derived.Laws.CopyOwn
import Derived.Deep.MidRow
import Derived.Deep.WholeRow
import Derived.ChangeKeysEq
import Derived.Test.YtmbecjlioogbhaaGreatDoorM01
import Derived.Test.YtmbecjlioogbhaaGreatDoorM02
set_option linter.unusedVariables false
set_option linter.unusedSimpArgs false
set_option linter.constructorNameAsVariable false
section
/-! The set of a size that is made of a copy of bytes. -/
set_option maxRecDepth 20000
namespace Go.Proofs.YtmbecjlioogbhaaGreatDoor.Bi
open Go.RowKit

theorem byt_cut (f : Nat → Bool) (n : Nat) : byt f (n / 8) % 2 ^ (n % 8) = byt (cut n f) (n / 8) := by
  apply Nat.eq_of_testBit_eq
  intro k
  rw [Nat.testBit_mod_two_pow, byt_bit, byt_bit]
  unfold cut
  by_cases hk : k < 8
  · rw [decide_eq_true hk, Bool.true_and, Bool.true_and]
    by_cases h : k < n % 8
    · rw [decide_eq_true h, decide_eq_true (show 8 * (n / 8) + k < n by omega)]
    · rw [decide_eq_false h, decide_eq_false (show ¬ 8 * (n / 8) + k < n by omega), Bool.false_and]
  · rw [decide_eq_false hk]; simp
theorem rowF_cut {f : Nat → Bool} {n : Nat} (h : n % 8 ≠ 0) : (rowF f (need n)).set (need n - 1) (byt f (need n - 1) % 2 ^ (n % 8)) = rowF (cut n f) (need n) := by
  have hm : need n - 1 = n / 8 := by unfold need; omega
  have hn : n / 8 < need n := by unfold need; omega
  rw [hm, byt_cut]
  refine getD_ext (by simp [rowF_len]) fun j hj => ?_
  rw [List.length_set, rowF_len] at hj
  rw [rowF_getD _ _ _ hj, List.getD_eq_getElem?_getD, List.getElem?_set]
  by_cases h : n / 8 = j
  · subst h; simp [rowF_len, hj]
  · rw [if_neg h, ← List.getD_eq_getElem?_getD, rowF_getD _ _ _ hj]
    refine byt_congr fun i hi => ?_
    unfold cut
    rw [decide_eq_true (show 8 * j + i < n by unfold need at hj; omega), Bool.true_and]
theorem rowF_cut0 {f : Nat → Bool} {n : Nat} (h : n % 8 = 0) : rowF f (need n) = rowF (cut n f) (need n) := by
  refine rowF_congr fun i hi => ?_
  unfold cut
  rw [decide_eq_true (show i < n by unfold need at hi; omega), Bool.true_and]
/-- What copying leaves in a row of zeros. -/
theorem copied_row (bs : List Nat) (m : Nat) (hd : ∀ x ∈ bs, x < 256) : bs.take m ++ (List.replicate m 0).drop (bs.take m).length = rowF (trs bs) m := by
  refine getD_ext (by rw [rowF_len]; simp; omega) fun j hj => ?_
  have hl : (bs.take m ++ (List.replicate m 0).drop (bs.take m).length).length = m := by simp; omega
  rw [hl] at hj
  rw [rowF_getD _ _ _ hj]
  have hg : bs.getD j 0 < 256 := by
    rw [List.getD_eq_getElem?_getD]
    cases e : bs[j]? with
    | none => decide
    | some x => exact hd x (List.mem_of_getElem? e)
  rw [byt_trs _ _ hg]
  by_cases h : j < (bs.take m).length
  · rw [List.getD_eq_getElem?_getD, List.getElem?_append_left h, ← List.getD_eq_getElem?_getD, getD_take _ _ _ hj]
  · rw [List.getD_eq_getElem?_getD, List.getElem?_append_right (by omega), List.getElem?_drop, List.getElem?_replicate]
    have h2 : bs.length ≤ j := by rw [List.length_take] at h; omega
    rw [List.getD_eq_getElem?_getD, List.getElem?_eq_none h2]
    split <;> rfl
theorem zeros_of (n : Nat) : (madeCells #[Value.int .u8 0] n).toList = u8s (List.replicate n 0) := by
  rw [toList_madeCells_one]
  unfold u8s
  rw [List.map_replicate]; rfl
theorem u8s_take (bs : List Nat) (m : Nat) : (u8s bs).take m = u8s (bs.take m) := by unfold u8s; rw [List.map_take]
theorem u8s_drop (bs : List Nat) (m : Nat) : (u8s bs).drop m = u8s (bs.drop m) := by unfold u8s; rw [List.map_drop]
set_option maxRecDepth 20000 in
set_option maxHeartbeats 1600000 in
theorem fit_any (n : Nat) (p : Option Addr) (k c : Nat) (bs : List Nat) (w : World) (hn : n ≤ 2048) (hk : k ≤ 140737488351232) (hB : Bys w p k bs) :
    Calls Tryz.prog 214 #[.int .i64 (n : Int), .slice p k c] w fun e w' => (∃ g b, e = .returned (.pointer (some ⟨g, 0, none⟩)) ∧ w.heap.size ≤ g ∧ w.heap.size ≤ b ∧ Sat w' g b n (cut n (trs bs))) ∧ Below w.heap.size w w' := by
  obtain ⟨m, hm⟩ : ∃ m, Hid (need n = m) := ⟨_, Lib.hid rfl⟩
  have hm2 : m ≤ 256 := by rw [← hm.out]; exact need_le hn
  obtain ⟨i0, hi, hz0, hz1, hz2⟩ := info_parts Tryz.info5
  obtain ⟨C0, HC⟩ : ∃ C0, Hid (madeCells (Value.int IntKind.u8 0).cells m = C0) := ⟨_, Lib.hid rfl⟩
  have HCl : Hid (C0.toList = u8s (List.replicate m 0)) := Lib.hid (by rw [← HC.out]; exact zeros_of m)
  have HCs : Hid (C0.size = m) := by rw [← HC.out]; exact Lib.hid (size_madeCells _ _)
  have hmk : ∀ w : World, (Instr.makeSlice 71 (.int .i64 (m : Int)) (.int .i64 (m : Int))).run Tryz.prog w = .ok (.slice (some ⟨w.heap.size, 0, none⟩) m m) (w.alloc (.cells C0 5)) := fun w => by
    have h := run_make (P := Tryz.prog) w 71 5 i0 _ Tryz.underlying71 hi hz0 .i64 .i64 m m (by omega) (by omega) (by rw [hz2]; omega) (by omega)
    rw [hz1, Int.toNat_natCast, Nat.mul_one, HC.out] at h
    exact h
  have HB := Lib.hid hB
  clear hB hi hz0 hz1 hz2
  have HL : Hid ((u8s (bs.take m)).length = k.min m) := Lib.hid (by rw [u8s_len, List.length_take, HB.out.len]; exact Nat.min_comm _ _)
  have hl0 : (Tryz.prog.info? 5).map (·.size) = some 1 := by kernel_rfl
  have HP := Lib.hid hl0
  clear hl0
  have K1 : Hid ((w.alloc (.cells C0 5)).heap[w.heap.size]? = some (.cells C0.toList.toArray 5 (0, 0))) := Lib.hid (by show (w.heap.push _)[w.heap.size]? = _; simp)
  have K5 : Hid (Below w.heap.size w (w.alloc (.cells C0 5))) := Lib.hid ((Below.refl _ _).alloc (Nat.le_refl _) _)
  have K3 : Hid (0 < (u8s (bs.take m)).length → ∃ ad, p = some ad ∧ ∀ j v, (u8s (bs.take m))[j]? = some v → (w.alloc (.cells C0 5)).cell? (ad.add j) = some v) :=
    Lib.hid fun h => by
      have h0 : 0 < k := by rw [HL.out] at h; rcases Nat.eq_zero_or_pos k with e | e
                            · subst e; simp [Nat.min] at h
                            · exact e
      obtain ⟨ad, e, hc⟩ := (HB.out.below K5.out).cells h0
      refine ⟨ad, e, fun j v hv => hc j v ?_⟩
      rw [← u8s_take, List.getElem?_take] at hv
      split at hv
      · exact hv
      · cases hv
  have K4 : Hid (0 + (u8s (bs.take m)).length ≤ C0.toList.length) := Lib.hid (by rw [HCl.out, u8s_len, u8s_len, List.length_take, List.length_replicate]; omega)
  have HNEED : Hid (∀ w, Calls Tryz.prog 213 #[.int .i64 (n : Int)] w fun e w' => e = .returned (.int .i64 (m : Int)) ∧ w = w') := Lib.hid fun w => by rw [← hm.out]; exact need_any n w (by omega)
  clear hm2
  go_enter Tryz.func214, Tryz.ntmps214
  go_wp2_with (first
    | (go_at_call 213; refine (HNEED.out _).mono ?_; rintro e w7 ⟨rfl, rfl⟩)
    | (with_reducible refine wpList_copy_splice (w := w.alloc (.cells C0 5)) rfl (.tmp 10) (.tmp 11) 71 71 rfl 5 Tryz.underlying71 HP.out (some ⟨w.heap.size, 0, none⟩) p m m k c rfl rfl w.heap.size 0 C0.toList 5 K1.out (u8s (bs.take m)) HL.out (fun h => ⟨rfl, K3.out h⟩) K4.out (u8s_one _) w.heap.size w K5.out (Nat.le_refl _) ?_))
  intro w2 hheap hb2
  have hm2 : m ≤ 256 := by rw [← hm.out]; exact need_le hn
  have HO : Hid (Row5 w2 w.heap.size m (rowF (trs bs) m)) := Lib.hid (by
    rw [← copied_row bs m HB.out.dig]
    refine ⟨by rw [u8s_len, List.length_append, List.length_drop, List.length_replicate, List.length_take]; omega, .inr ⟨w.heap.size, m, _, rfl, Nat.zero_le _, hheap.out, Nat.le_refl _, by unfold maxLen; omega, ?_, ?_⟩⟩
    · rw [List.size_toArray, length_splice _ _ _ K4.out, Array.length_toList, HCs.out, Nat.mul_one]
    · show List.take (m * 1) (splice C0.toList 0 (u8s (bs.take m))) = _
      rw [Nat.mul_one, HCl.out]
      unfold splice
      rw [List.take_zero, List.nil_append, Nat.zero_add, u8s_len, u8s_drop, ← u8s_append, List.take_of_length_le (by rw [u8s_len, List.length_append, List.length_drop, List.length_replicate, List.length_take]; omega)])
  have HB2 := Lib.hid hb2
  clear hheap hb2 hm2 K1 K3 K4 K5 HC HCl HCs hmk HL
  go_upto_if 16 with fail
  go_cut [6] (fun _ wx => Hid (Row5 wx w.heap.size m (rowF (cut n (trs bs)) m) ∧ Below w.heap.size w wx))
  case first =>
    by_cases h0 : n % 8 = 0
    · have hd : decide ((0 : Int) < (n : Int) % 8) = false := decide_eq_false (by omega)
      have HF : Hid (rowF (trs bs) m = rowF (cut n (trs bs)) m) := Lib.hid (by rw [← hm.out]; exact rowF_cut0 h0)
      go_wp2_with fail
      go_meet
      exact Lib.hid ⟨by rw [← HF.out]; exact HO.out, HB2.out⟩
    · have hd : decide ((0 : Int) < (n : Int) % 8) = true := decide_eq_true (by omega)
      obtain ⟨q, hq⟩ : ∃ q, m = q + 1 := ⟨m - 1, by have := hm.out; unfold need at this; omega⟩
      have HF : Hid ((rowF (trs bs) m).set q (byt (trs bs) q % 2 ^ (n % 8)) = rowF (cut n (trs bs)) m) := Lib.hid (by
        have h := rowF_cut (f := trs bs) (n := n) h0
        rw [hm.out, show m - 1 = q by omega] at h
        exact h)
      have hcell := HO.out.cell q (by omega)
      rw [rowF_getD _ _ _ (by omega)] at hcell
      have hfz := HO.out.fz q
      have e : (n : Int) % 8 = ((n % 8 : Nat) : Int) := by omega
      have hr : n % 8 < 8 := Nat.mod_lt _ (by decide)
      rw [e] at hd ⊢
      have hp : 2 ^ (n % 8) < 256 := Nat.lt_of_lt_of_le (Nat.pow_lt_pow_right (by decide) hr) (by decide)
      have hp0 : 0 < 2 ^ (n % 8) := Nat.pow_pos (by decide)
      have h8 : ∀ r : Fin 8, (2 : Int) ^ r.val % 256 = ((2 ^ r.val : Nat) : Int) := by decide
      have hsh := h8 ⟨n % 8, hr⟩
      have hmin : min (n % 8) 8 = n % 8 := Nat.min_eq_left (by omega)
      have hand : bits .and .u8 (byt (trs bs) q : Int) ((2 ^ (n % 8) - 1 : Nat) : Int) = ((byt (trs bs) q % 2 ^ (n % 8) : Nat) : Int) := by
        rw [u8_and_nat _ _ (byt_lt _ _) (by omega), Nat.and_two_pow_sub_one_eq_mod]
      have hi1 : (m : Int) - 1 = (q : Int) := by omega
      have hqi : (q : Int) ≤ 256 := by have := need_le hn; have := hm.out; omega
      have hi2 : IntKind.i64.wrap ((m : Int) - 1) = (q : Int) := by rw [IntKind.wrap_i64, hi1]; omega
      have hi3 : IntKind.i64.wrap (q : Int) = (q : Int) := by rw [IntKind.wrap_i64]; omega
      have hi4 : wrap64 (q : Int) = (q : Int) := by unfold wrap64; omega
      have hqm : q < m := by omega
      have HP2 := HO.out.put q (byt (trs bs) q % 2 ^ (n % 8))
      rw [HF.out] at HP2
      have HPP := Lib.hid HP2
      clear HP2 h8
      simp only at hsh
      generalize byt (trs bs) q % 2 ^ (n % 8) = y2 at *
      generalize byt (trs bs) q = y at *
      generalize hz : 2 ^ (n % 8) = z at *
      have hs1 : ((z : Int) - 1) % 256 = ((z - 1 : Nat) : Int) := by omega
      have hs2 : IntKind.u8.wrap ((z : Int) - 1) = ((z - 1 : Nat) : Int) := by rw [IntKind.wrap_u8']; omega
      have hs3 : (z : Int) - 1 = ((z - 1 : Nat) : Int) := by omega
      generalize z - 1 = z1 at *
      clear hp hp0 hr e hq hz
      generalize n % 8 = r at *
      go_wp2_with fail
      go_region
      all_goals
        go_wp2_with fail
        go_meet
        exact Lib.hid ⟨HPP.out.below (Below.refl _ _).drew, ((HB2.out.setCell (p := ⟨w.heap.size, q, none⟩) (Nat.le_refl _) _)).drew⟩
  case rest =>
    have HR := hcut
    clear hcut
    go_wp2_with fail
    go_ret
    have hb3 : Below wc.heap.size wc (wc.alloc (.cells #[.int .i64 (n : Int), .slice (some ⟨w.heap.size, 0, none⟩) m m] 247)) := (Below.refl _ _).alloc (Nat.le_refl _) _
    have hsz := HR.out.2.size
    have hlt := HR.out.1.lt
    refine ⟨⟨wc.heap.size, w.heap.size, rfl, hsz, Nat.le_refl _, hn, cut_sub _ _, by omega, ?_, ?_⟩, HR.out.2.alloc hsz _⟩
    · rw [hm.out]; exact heap_alloc_new wc _
    · rw [hm.out]; exact HR.out.1.below hb3
end Go.Proofs.YtmbecjlioogbhaaGreatDoor.Bi
end
section
/-! The store's pageText: bytes, and zeros behind them. -/
set_option maxRecDepth 20000
set_option linter.unusedSimpArgs false
namespace Go.Proofs.YtmbecjlioogbhaaGreatDoor
open Go.RowKit

/-- A page's bytes: what it has, and zeros. -/
def pageT (bs : List Nat) : List Nat := bs ++ List.replicate (512 - bs.length) 0
theorem pageT_len {bs : List Nat} (h : bs.length ≤ 512) : (pageT bs).length = 512 := by unfold pageT; rw [List.length_append, List.length_replicate]; omega
theorem pageT_dig {bs : List Nat} (h : ∀ x ∈ bs, x < 256) : ∀ x ∈ pageT bs, x < 256 := fun x hx => by
  rcases List.mem_append.1 hx with h1 | h1
  · exact h x h1
  · rw [List.eq_of_mem_replicate h1]; decide
theorem Bo.bys {B : Nat} {w : World} {p : Option Addr} {n c : Nat} {bs : List Nat} (h : Bo B w (.slice p n c) bs) (hd : ∀ x ∈ bs, x < 256) : n = bs.length ∧ Bys w p bs.length bs := by
  obtain ⟨p', c', e, hr⟩ := h
  cases e
  exact ⟨rfl, Bys.own hr hd⟩
set_option maxHeartbeats 1600000 in
theorem pageText_any (p : Option Addr) (n c : Nat) (bs : List Nat) (w : World) (hn : n ≤ 512) (hB : Bys w p n bs) :
    Calls Tryz.prog 120 #[.slice p n c] w fun e w' => e = .returned (.string (strB (pageT bs))) ∧ Below w.heap.size w w' := by
  obtain ⟨i0, hi, hz0, hz1, hz2⟩ := info_parts Tryz.info5
  obtain ⟨C0, HC⟩ : ∃ C0, Hid (madeCells (Value.int IntKind.u8 0).cells 512 = C0) := ⟨_, Lib.hid rfl⟩
  have HCl : Hid (C0.toList = u8s (List.replicate 512 0)) := Lib.hid (by rw [← HC.out]; exact Bi.zeros_of 512)
  have HCs : Hid (C0.size = 512) := by rw [← HC.out]; exact Lib.hid (size_madeCells _ _)
  have hmk : ∀ w : World, (Instr.makeSlice 71 (.int .i64 512) (.int .i64 512)).run Tryz.prog w = .ok (.slice (some ⟨w.heap.size, 0, none⟩) 512 512) (w.alloc (.cells C0 5)) := fun w => by
    have h := run_make (P := Tryz.prog) w 71 5 i0 _ Tryz.underlying71 hi hz0 .i64 .i64 ((512 : Nat) : Int) ((512 : Nat) : Int) (by omega) (by omega) (by rw [hz2]; omega) (by omega)
    rw [hz1, Int.toNat_natCast, Nat.mul_one, HC.out] at h
    exact h
  have HB := Lib.hid hB
  have hbl := hB.len
  clear hB hi hz0 hz1 hz2
  have HL : Hid ((u8s bs).length = n.min 512) := Lib.hid (by rw [u8s_len, HB.out.len]; exact (Nat.min_eq_left hn).symm)
  have HL2 : Hid ((u8s bs).length = n) := Lib.hid (by rw [u8s_len, HB.out.len])
  have hl0 : (Tryz.prog.info? 5).map (·.size) = some 1 := by kernel_rfl
  have HP := Lib.hid hl0
  clear hl0
  have K1 : Hid ((w.alloc (.cells C0 5)).heap[w.heap.size]? = some (.cells C0.toList.toArray 5 (0, 0))) := Lib.hid (by show (w.heap.push _)[w.heap.size]? = _; simp)
  have K5 : Hid (Below w.heap.size w (w.alloc (.cells C0 5))) := Lib.hid ((Below.refl _ _).alloc (Nat.le_refl _) _)
  have K3 : Hid (0 < (u8s bs).length → ∃ ad, p = some ad ∧ ∀ j v, (u8s bs)[j]? = some v → (w.alloc (.cells C0 5)).cell? (ad.add j) = some v) :=
    Lib.hid fun h => (HB.out.below K5.out).cells (by rw [HL2.out] at h; exact h)
  have K4 : Hid (0 + (u8s bs).length ≤ C0.toList.length) := Lib.hid (by rw [HL2.out, Array.length_toList, HCs.out]; omega)
  have HBL := Lib.hid hbl
  have HN := Lib.hid hn
  clear hbl hn
  go_enter Tryz.func120, Tryz.ntmps120
  go_upto_region 3 with (with_reducible refine wpList_copy_splice (w := w.alloc (.cells C0 5)) rfl (.tmp 5) (.tmp 6) 71 71 rfl 5 Tryz.underlying71 HP.out (some ⟨w.heap.size, 0, none⟩) p 512 512 n c rfl rfl w.heap.size 0 C0.toList 5 K1.out (u8s bs) HL.out (fun h => ⟨rfl, K3.out h⟩) K4.out (u8s_one _) w.heap.size w K5.out (Nat.le_refl _) ?_; intro w2 hheap hb2)
  have HB2 := Lib.hid hb2
  have hcv : (convert 71 9 (.slice (some ⟨w.heap.size, 0, none⟩) 512 512)).run Tryz.prog w2 = .ok (.string (strB (pageT bs))) w2 := by
    have hl := HBL.out
    have hn := HN.out
    have hsp : splice C0.toList 0 (u8s bs) = u8s (pageT bs) := by
      unfold splice pageT
      rw [List.take_zero, List.nil_append, HCl.out, u8s_len, hl, Nat.zero_add, Bi.u8s_drop, List.drop_replicate, ← u8s_append]
    refine (Bys.own (base := w.heap.size) (n := 512) (c := 512) (bs := pageT bs) ⟨by rw [u8s_len, pageT_len (by omega)], .inr ⟨w.heap.size, 512, _, rfl, Nat.le_refl _, hheap.out, Nat.le_refl _, by decide, ?_, ?_⟩⟩ (pageT_dig HB.out.dig)).conv 512
    · rw [List.size_toArray, length_splice _ _ _ K4.out, Array.length_toList, HCs.out]
    · show List.take (512 * 1) (splice C0.toList 0 (u8s bs)) = _
      rw [hsp, List.take_of_length_le (by rw [u8s_len, pageT_len (by omega)]; exact Nat.le_refl _)]
  clear hheap hb2 K1 K3 K4 K5 HC HCl HCs hmk HL
  go_wp2_with fail
  go_ret
  exact ⟨rfl, HB2.out⟩
end Go.Proofs.YtmbecjlioogbhaaGreatDoor
end
section
/-! What New, Of and twin return. -/
set_option maxRecDepth 20000
namespace Go.Proofs.YtmbecjlioogbhaaGreatDoor.Bi
open Go.RowKit

theorem trs_nil : trs [] = fun _ => false := by funext i; exact trs_far (by simp)
theorem cut_false (n : Nat) : cut n (fun _ => false) = fun _ => false := by funext i; unfold cut; simp
theorem new_yes (n : Nat) (w : World) (hn : n ≤ 2048) :
    Calls Tryz.prog 207 #[.int .i64 (n : Int)] w fun e w' => (∃ g b, e = .returned (.tuple #[.pointer (some ⟨g, 0, none⟩), .int .i64 0]) ∧ w.heap.size ≤ g ∧ w.heap.size ≤ b ∧ Sat w' g b n (fun _ => false)) ∧ Below w.heap.size w w' := by
  have HF := Lib.hid (fun w => fit_any n none 0 0 [] w hn (by omega) (Bys.zero w none))
  rw [trs_nil, cut_false] at HF
  have HM : Hid (∀ w, Calls Tryz.prog 212 #[.int .i64 (n : Int)] w fun e w' => e = .returned (.bool true) ∧ w = w') := Lib.hid fun w => by
    have h := may_any (n : Int) w
    rwa [decide_eq_true (show (0 : Int) ≤ (n : Int) by omega), decide_eq_true (show (n : Int) ≤ 2048 by omega)] at h
  clear hn
  go_enter Tryz.func207, Tryz.ntmps207
  go_wp2_with (first
    | (go_at_call 212; refine (HM.out _).mono ?_; rintro e w7 ⟨rfl, rfl⟩)
    | (go_at_call 214; refine (HF.out _).mono ?_; rintro e w7 ⟨⟨g, b, rfl, h1, h2, hS⟩, hb⟩))
  go_ret2
  exact ⟨⟨g, b, rfl, h1, h2, hS⟩, hb⟩
theorem may_no {x : Int} (h : ¬ (0 ≤ x ∧ x ≤ 2048)) (w : World) : Calls Tryz.prog 212 #[.int .i64 x] w fun e w' => e = .returned (.bool false) ∧ w = w' := by
  have h2 := may_any x w
  have e : (decide (0 ≤ x) && decide (x ≤ 2048)) = false := by
    by_cases h0 : 0 ≤ x
    · rw [decide_eq_false (show ¬ x ≤ 2048 by omega), Bool.and_false]
    · rw [decide_eq_false h0, Bool.false_and]
  rwa [e] at h2
/-- Why there is no set of these bytes; 0: there is one. -/
def ofE (x : Int) (bs : List Nat) : Int :=
  if ¬ (0 ≤ x ∧ x ≤ 2048) then 1 else if need x.toNat < bs.length then 2 else if bs.length < need x.toNat then 3
  else if rowF (cut x.toNat (trs bs)) (need x.toNat) = bs then 0 else 4
/-- What Of tells of it. -/
def OfR (W w' : World) (x : Int) (bs : List Nat) (v : Value) : Prop :=
  (ofE x bs = 0 ∧ ∃ g b, v = .pointer (some ⟨g, 0, none⟩) ∧ W.heap.size ≤ g ∧ W.heap.size ≤ b ∧ Sat w' g b x.toNat (trs bs)) ∨ (ofE x bs ≠ 0 ∧ v = .pointer none)
theorem cut_trs {n : Nat} {bs : List Nat} (hl : bs.length = need n) (h : rowF (cut n (trs bs)) (need n) = bs) : cut n (trs bs) = trs bs := by
  funext i
  by_cases hi : i < n
  · unfold cut; rw [decide_eq_true hi, Bool.true_and]
  · have h1 : cut n (trs bs) i = false := by unfold cut; rw [decide_eq_false hi]; rfl
    rw [h1]
    by_cases h2 : i < 8 * need n
    · have h3 := trs_rowF (f := cut n (trs bs)) h2
      rw [h, h1] at h3; exact h3.symm
    · exact (trs_far (by rw [hl]; omega)).symm
set_option maxHeartbeats 800000 in
theorem of_any (x : Int) (p : Option Addr) (k c : Nat) (bs : List Nat) (w : World) (hk : k ≤ 140737488351232) (hB : Bys w p k bs) :
    Calls Tryz.prog 191 #[.int .i64 x, .slice p k c] w fun e w' => (∃ v, e = .returned (.tuple #[v, .int .i64 (ofE x bs)]) ∧ OfR w w' x bs v) ∧ Below w.heap.size w w' := by
  have hl := hB.len
  by_cases hin : 0 ≤ x ∧ x ≤ 2048
  · obtain ⟨n, rfl⟩ := Int.eq_ofNat_of_zero_le hin.1
    have hn : n ≤ 2048 := by omega
    have HM : Hid (∀ w, Calls Tryz.prog 212 #[.int .i64 (n : Int)] w fun e w' => e = .returned (.bool true) ∧ w = w') := Lib.hid fun w => by
      have h := may_any (n : Int) w
      rwa [decide_eq_true (show (0 : Int) ≤ (n : Int) by omega), decide_eq_true (show (n : Int) ≤ 2048 by omega)] at h
    have HN := Lib.hid (fun w => need_any n w (by omega))
    by_cases h1 : need n < k
    · have hE : ofE (n : Int) bs = 2 := by unfold ofE; rw [if_neg (not_not_intro hin), if_pos (by rw [Int.toNat_natCast, hl]; exact h1)]
      have hd : decide ((need n : Int) < (k : Int)) = true := decide_eq_true (by omega)
      have hdn : decide (need n < k) = true := decide_eq_true h1
      rw [hE]
      have HE := Lib.hid hE
      clear hin hn hB hk hE h1
      go_enter Tryz.func191, Tryz.ntmps191
      go_wp2_with (first
        | (go_at_call 212; refine (HM.out _).mono ?_; rintro e w7 ⟨rfl, rfl⟩)
        | (go_at_call 213; refine (HN.out _).mono ?_; rintro e w7 ⟨rfl, rfl⟩))
      go_ret2
      exact ⟨⟨_, rfl, .inr ⟨by rw [HE.out]; decide, rfl⟩⟩, Below.refl _ _⟩
    · have hd : decide ((need n : Int) < (k : Int)) = false := decide_eq_false (by omega)
      have hdn : decide (need n < k) = false := decide_eq_false h1
      by_cases h2 : k < need n
      · have hE : ofE (n : Int) bs = 3 := by unfold ofE; rw [if_neg (not_not_intro hin), if_neg (by rw [Int.toNat_natCast, hl]; exact h1), if_pos (by rw [Int.toNat_natCast, hl]; exact h2)]
        have hd2 : decide ((k : Int) < (need n : Int)) = true := decide_eq_true (by omega)
        have hd2n : decide (k < need n) = true := decide_eq_true h2
        rw [hE]
        have HE := Lib.hid hE
        clear hin hn hB hk hE h1 h2
        go_enter Tryz.func191, Tryz.ntmps191
        go_wp2_with (first
          | (go_at_call 212; refine (HM.out _).mono ?_; rintro e w7 ⟨rfl, rfl⟩)
          | (go_at_call 213; refine (HN.out _).mono ?_; rintro e w7 ⟨rfl, rfl⟩))
        go_ret2
        exact ⟨⟨_, rfl, .inr ⟨by rw [HE.out]; decide, rfl⟩⟩, Below.refl _ _⟩
      · have hd2 : decide ((k : Int) < (need n : Int)) = false := decide_eq_false (by omega)
        have hd2n : decide (k < need n) = false := decide_eq_false h2
        have hkn : k = need n := by omega
        have HF := Lib.hid (fit_any n p k c bs w hn hk hB)
        have HB := Lib.hid hB
        by_cases h3 : rowF (cut n (trs bs)) (need n) = bs
        · have hE : ofE (n : Int) bs = 0 := by unfold ofE; rw [if_neg (not_not_intro hin), if_neg (by rw [Int.toNat_natCast, hl]; exact h1), if_neg (by rw [Int.toNat_natCast, hl]; exact h2), if_pos (by rw [Int.toNat_natCast]; exact h3)]
          have HE := Lib.hid hE
          have HC := Lib.hid (cut_trs (by omega) h3)
          have H3 := Lib.hid (decide_eq_true h3)
          rw [hE]
          clear hin hn hB hk hE h1 h2 h3 hkn
          go_enter Tryz.func191, Tryz.ntmps191
          go_wp2_with (first
            | (go_at_call 212; refine (HM.out _).mono ?_; rintro e w7 ⟨rfl, rfl⟩)
            | (go_at_call 213; refine (HN.out _).mono ?_; rintro e w7 ⟨rfl, rfl⟩)
            | (go_at_call 214; refine HF.out.mono ?_; rintro e w7 ⟨⟨g, b, rfl, hg1, hg2, hS⟩, hb⟩; have l1 := hS.c1)
            | (go_at_call 193; refine (equal_any _ _ _ _ _ _ _ _ _ hS.bys (HB.out.below hb)).mono ?_; rintro e w8 ⟨rfl, rfl⟩; rw [H3.out]))
          go_ret2
          exact ⟨⟨_, rfl, .inl ⟨HE.out, g, b, rfl, hg1, hg2, by rw [Int.toNat_natCast, ← HC.out]; exact hS⟩⟩, hb⟩
        · have hE : ofE (n : Int) bs = 4 := by unfold ofE; rw [if_neg (not_not_intro hin), if_neg (by rw [Int.toNat_natCast, hl]; exact h1), if_neg (by rw [Int.toNat_natCast, hl]; exact h2), if_neg (by rw [Int.toNat_natCast]; exact h3)]
          have HE := Lib.hid hE
          have H3 := Lib.hid (decide_eq_false h3)
          rw [hE]
          clear hin hn hB hk hE h1 h2 h3 hkn
          go_enter Tryz.func191, Tryz.ntmps191
          go_wp2_with (first
            | (go_at_call 212; refine (HM.out _).mono ?_; rintro e w7 ⟨rfl, rfl⟩)
            | (go_at_call 213; refine (HN.out _).mono ?_; rintro e w7 ⟨rfl, rfl⟩)
            | (go_at_call 214; refine HF.out.mono ?_; rintro e w7 ⟨⟨g, b, rfl, hg1, hg2, hS⟩, hb⟩; have l1 := hS.c1)
            | (go_at_call 193; refine (equal_any _ _ _ _ _ _ _ _ _ hS.bys (HB.out.below hb)).mono ?_; rintro e w8 ⟨rfl, rfl⟩; rw [H3.out]))
          go_ret2
          exact ⟨⟨_, rfl, .inr ⟨by rw [HE.out]; decide, rfl⟩⟩, hb⟩
  · have HM := Lib.hid (may_no hin)
    have hE : ofE x bs = 1 := by unfold ofE; rw [if_pos hin]
    rw [hE]
    have HE := Lib.hid hE
    clear hin hB hk hE
    go_enter Tryz.func191, Tryz.ntmps191
    go_wp2_with (go_at_call 212; refine (HM.out _).mono ?_; rintro e w7 ⟨rfl, rfl⟩)
    go_ret2
    exact ⟨⟨_, rfl, .inr ⟨by rw [HE.out]; decide, rfl⟩⟩, Below.refl _ _⟩
end Go.Proofs.YtmbecjlioogbhaaGreatDoor.Bi
end
section
/-! Tables as functions: what is told of each logical page; rows of numbers in memory. -/
namespace Go.Proofs.YtmbecjlioogbhaaGreatDoor.Tb
open Go.Proofs.YtmbecjlioogbhaaGreatDoor.Bi
open Go.RowKit

/-- Some of the numbers of a row, as values. -/
def ints (f : Nat → Nat) (a n : Nat) : List Value := (List.range n).map fun j => Value.int .i64 ((f (a + j) : Nat) : Int)
theorem ints_len (f : Nat → Nat) (a n : Nat) : (ints f a n).length = n := by simp [ints]
theorem ints_get (f : Nat → Nat) (a n j : Nat) (h : j < n) : (ints f a n)[j]? = some (.int .i64 ((f (a + j) : Nat) : Int)) := by
  unfold ints; rw [List.getElem?_map, List.getElem?_range h]; rfl
theorem ints_one (f : Nat → Nat) (a n : Nat) : ∀ v ∈ ints f a n, v.oneCell' = true := by
  intro v hv
  obtain ⟨j, _, rfl⟩ := List.mem_map.1 hv
  rfl
theorem ints_congr {f g : Nat → Nat} {a b n : Nat} (h : ∀ j, j < n → f (a + j) = g (b + j)) : ints f a n = ints g b n :=
  List.map_congr_left fun j hj => by rw [h j (List.mem_range.1 hj)]
theorem ints_cons (f : Nat → Nat) (a n : Nat) : ints f a (n + 1) = .int .i64 ((f a : Nat) : Int) :: ints f (a + 1) n := by
  unfold ints
  rw [List.range_succ_eq_map, List.map_cons, List.map_map]
  congr 1
  exact List.map_congr_left fun j _ => by simp only [Function.comp_apply]; rw [show a + (j + 1) = a + 1 + j by omega]
/-- A row of numbers. -/
def rowA (f : Nat → Nat) (n : Nat) : Array Value := (ints f 0 n).toArray
theorem rowA_size (f : Nat → Nat) (n : Nat) : (rowA f n).size = n := by simp [rowA, ints_len]
theorem rowA_get (f : Nat → Nat) (n i : Nat) (h : i < n) : (rowA f n)[i]? = some (.int .i64 ((f i : Nat) : Int)) := by
  have := ints_get f 0 n i h
  rw [Nat.zero_add] at this
  simpa [rowA] using this
theorem rowA_ext {f g : Nat → Nat} {n : Nat} (h : ∀ i, i < n → f i = g i) : rowA f n = rowA g n := by
  unfold rowA; rw [ints_congr (f := f) (g := g) (a := 0) (b := 0) (fun j hj => by rw [Nat.zero_add]; exact h j hj)]
/-- Numbers with another one at a place. -/
def updN (f : Nat → Nat) (i v : Nat) : Nat → Nat := fun j => if j = i then v else f j
theorem updN_same (f : Nat → Nat) (i v : Nat) : updN f i v i = v := if_pos rfl
theorem updN_other (f : Nat → Nat) (i j v : Nat) (h : j ≠ i) : updN f i v j = f j := if_neg h
theorem rowA_set (f : Nat → Nat) (n i v : Nat) : (rowA f n).set! i (.int .i64 (v : Int)) = rowA (updN f i v) n := by
  apply Array.ext_getElem?
  intro j
  by_cases hj : j < n
  · rw [rowA_get _ _ _ hj, Array.set!_eq_setIfInBounds, Array.getElem?_setIfInBounds]
    by_cases e : i = j
    · subst e; rw [if_pos rfl, rowA_size, if_pos hj, updN_same]
    · rw [if_neg e, rowA_get _ _ _ hj, updN_other _ _ _ _ (fun h => e h.symm)]
  · rw [Array.getElem?_eq_none (by simp [rowA_size]; omega), Array.getElem?_eq_none (by rw [rowA_size]; omega)]
/-- Numbers of which some were written over. -/
def over (f : Nat → Nat) (o : Nat) (v : Nat → Nat) (a k : Nat) : Nat → Nat := fun l => if o ≤ l ∧ l < o + k then v (a + (l - o)) else f l
theorem over_in (f : Nat → Nat) (o : Nat) (v : Nat → Nat) (a k j : Nat) (h : j < k) : over f o v a k (o + j) = v (a + j) := by
  unfold over; rw [if_pos (by omega), show o + j - o = j by omega]
theorem over_out (f : Nat → Nat) (o : Nat) (v : Nat → Nat) (a k l : Nat) (h : l < o ∨ o + k ≤ l) : over f o v a k l = f l := by
  unfold over; rw [if_neg (by omega)]

/-- The block is a row of these numbers. -/
def IsT (w : World) (g t : Nat) (f : Nat → Nat) (n : Nat) : Prop := w.heap[g]? = some (.cells (rowA f n) t (0, 0))
section
variable {w w' : World} {g t n : Nat} {f : Nat → Nat}
theorem IsT.lt (h : IsT w g t f n) : g < w.heap.size := lt_of_block h
theorem IsT.cell (h : IsT w g t f n) (i : Nat) (hi : i < n) : w.cell? ⟨g, i, none⟩ = some (.int .i64 ((f i : Nat) : Int)) := by
  rw [cell_of_row w g i _ _ _ h]; exact rowA_get f n i hi
theorem IsT.free (h : IsT w g t f n) (i : Nat) : w.frozen? ⟨g, i, none⟩ = false := frozen_of_row w g i _ _ h
theorem IsT.put (h : IsT w g t f n) (i v : Nat) : IsT (w.setCell ⟨g, i, none⟩ (.int .i64 (v : Int))) g t (updN f i v) n := by
  have h2 := heap_setCell_same w g i _ _ (.int .i64 (v : Int)) h
  unfold IsT
  rw [← rowA_set]
  exact h2
theorem IsT.same (h : IsT w g t f n) (hb : w'.heap[g]? = w.heap[g]?) : IsT w' g t f n := hb.trans h
theorem IsT.below (h : IsT w g t f n) (hb : Below w.heap.size w w') : IsT w' g t f n := h.same (hb.block g h.lt)
theorem IsT.only {k : Nat} (h : IsT w g t f n) (hk : Only k w w') (hg : g ≠ k) : IsT w' g t f n := h.same (hk.block g h.lt hg)
theorem IsT.other (h : IsT w g t f n) {a : Addr} (ha : g ≠ a.block) (v : Value) : IsT (w.setCell a v) g t f n := (heap_setCell_other w a g v ha).trans h
theorem IsT.ext (h : IsT w g t f n) {f2 : Nat → Nat} (hf : ∀ i, i < n → f i = f2 i) : IsT w g t f2 n := by
  unfold IsT at h ⊢
  rw [h, rowA_ext hf]
theorem IsT.there (h : IsT w g t f n) (o k : Nat) (hk : o + k ≤ n) : w.there g o k := fun j hj =>
  ⟨by rw [h.cell (o + j) (by omega)]; rfl, h.free _⟩
theorem IsT.range (h : IsT w g t f n) (o k : Nat) (hk : o + k ≤ n) : w.rangeAt g o (ints f o k) := fun j v hv => by
  have hj : j < k := by
    have := (List.getElem?_eq_some_iff.1 hv).1
    rwa [ints_len] at this
  rw [h.cell (o + j) (by omega), ← ints_get f o k j hj]; exact hv
theorem IsT.segs {v : Nat → Nat} (k : Nat) : ∀ (o a : Nat) (f : Nat → Nat) (w : World), IsT w g t f n → IsT (w.setCells g o (ints v a k)) g t (over f o v a k) n := by
  induction k with
  | zero =>
    intro o a f w h
    refine IsT.ext (f := f) h fun i _ => ?_
    rw [over_out _ _ _ _ _ _ (by omega)]
  | succ k ih =>
    intro o a f w h
    rw [ints_cons, World.setCells]
    refine (ih (o + 1) (a + 1) _ _ (h.put o (v a))).ext fun i _ => ?_
    by_cases e : i = o
    · subst e
      rw [over_out _ _ _ _ _ _ (by omega), updN_same]
      have := over_in f i v a (k + 1) 0 (by omega)
      exact this.symm
    · by_cases hin : o ≤ i ∧ i < o + (k + 1)
      · obtain ⟨j, rfl⟩ : ∃ j, i = o + 1 + j := ⟨i - (o + 1), by omega⟩
        rw [over_in _ _ _ _ _ _ (by omega), show o + 1 + j = o + (1 + j) by omega, over_in _ _ _ _ _ _ (by omega)]
        congr 1; omega
      · rw [over_out _ _ _ _ _ _ (by omega), over_out _ _ _ _ _ _ (by omega), updN_other _ _ _ _ e]
theorem only_segs (w : World) (g o : Nat) (vs : List Value) : Only g w (w.setCells g o vs) := by
  have hk := World.keptBut_setCells g (may := fun _ => True) vs o w (fun _ _ => trivial)
  induction vs generalizing o w with
  | nil => exact Only.refl g w
  | cons v r ih => exact (Only.setCell g o v w).trans (ih (w.setCell ⟨g, o, none⟩ v) (o + 1) (World.keptBut_setCells g (may := fun _ => True) r (o + 1) _ (fun _ _ => trivial)))
end

/-- A page of the disk, or none. -/
def pgN (v : Nat) : Bool := decide (v = 0) || (decide (2 ≤ v) && decide (v < 512))
def Ok (f : Nat → Nat) : Prop := ∀ l, pgN (f l) = true
theorem Ok.lt {f : Nat → Nat} (h : Ok f) (l : Nat) : f l < 512 := by
  have := h l
  simp [pgN] at this; omega
theorem Ok.upd {f : Nat → Nat} (h : Ok f) (i : Nat) {v : Nat} (hv : pgN v = true) : Ok (updN f i v) := fun l => by
  unfold updN; split
  · exact hv
  · exact h l
theorem Ok.over {f v : Nat → Nat} (h : Ok f) (o a k : Nat) (hv : ∀ j, j < k → pgN (v (a + j)) = true) : Ok (over f o v a k) := fun l => by
  unfold Go.Proofs.YtmbecjlioogbhaaGreatDoor.Tb.over; split
  · exact hv _ (by omega)
  · exact h l
/-- May a page of the disk be told? -/
def pgI (x : Int) : Bool := decide (2 ≤ x) && decide (x < 512)
theorem pgI_nat {v : Nat} (h : pgI (v : Int) = true) : pgN v = true := by
  simp only [pgI, Bool.and_eq_true, decide_eq_true_eq] at h
  simp [pgN]; omega
/-- Block g holds a table. -/
structure Tab (w : World) (g : Nat) (f : Nat → Nat) : Prop where
  row : IsT w g 187 f 512
  ok : Ok f
section
variable {w w' : World} {g : Nat} {f : Nat → Nat}
theorem Tab.lt (h : Tab w g f) : g < w.heap.size := h.row.lt
theorem Tab.same (h : Tab w g f) (hb : w'.heap[g]? = w.heap[g]?) : Tab w' g f := ⟨h.row.same hb, h.ok⟩
theorem Tab.below (h : Tab w g f) (hb : Below w.heap.size w w') : Tab w' g f := ⟨h.row.below hb, h.ok⟩
theorem Tab.only {k : Nat} (h : Tab w g f) (hk : Only k w w') (hg : g ≠ k) : Tab w' g f := ⟨h.row.only hk hg, h.ok⟩
theorem Tab.drew (h : Tab w g f) : Tab w.drew g f := h.same rfl
end
/-- What a row tells of a logical page: 0 of one that there isn't. -/
def getI (f : Nat → Nat) (x : Int) : Nat := if 0 ≤ x ∧ x < 512 then f x.toNat else 0
theorem getI_nat (f : Nat → Nat) {i : Nat} (h : i < 512) : getI f (i : Int) = f i := by unfold getI; rw [if_pos (by omega), Int.toNat_natCast]
theorem getI_out (f : Nat → Nat) {x : Int} (h : ¬ (0 ≤ x ∧ x < 512)) : getI f x = 0 := if_neg h
/-- Is the logical page told? -/
def free (f : Nat → Nat) : Nat → Bool := fun l => f l == 0
/-- How many pages are told. -/
def told (f : Nat → Nat) : Nat → Bool := fun l => !(f l == 0)
end Go.Proofs.YtmbecjlioogbhaaGreatDoor.Tb
end
section
/-! A new table; what a table tells of a page; a page told, and dropped. -/
set_option linter.unusedSimpArgs false
set_option maxRecDepth 20000
namespace Go.Proofs.YtmbecjlioogbhaaGreatDoor.Tb
open Go.Proofs.YtmbecjlioogbhaaGreatDoor.Bi
open Go.RowKit

theorem info187 : (Tryz.prog.info? 187).map (fun i => (i.zero, i.size)) = some (some (.agg (rowA (fun _ => 0) 512)), 512) := by kernel_rfl
theorem info184 : (Tryz.prog.info? 184).map (fun i => (i.zero, i.size)) = some (some (.agg (rowA (fun _ => 0) 128)), 128) := by kernel_rfl
theorem ok0 : Ok fun _ => 0 := fun _ => rfl
theorem new_any (w : World) : Calls Tryz.prog 75 #[] w fun e w' => e = .returned (.pointer (some ⟨w.heap.size, 0, none⟩)) ∧ Tab w' w.heap.size (fun _ => 0) ∧ Below w.heap.size w w' := by
  obtain ⟨hz, hi⟩ := zero_of_info (P := Tryz.prog) info187
  have HN : Hid (Tab (w.alloc (.cells (rowA (fun _ => 0) 512) 187)) w.heap.size fun _ => 0) := Lib.hid ⟨heap_alloc_new w _, ok0⟩
  have HB : Hid (Below w.heap.size w (w.alloc (.cells (rowA (fun _ => 0) 512) 187))) := Lib.hid ((Below.refl _ _).alloc (Nat.le_refl _) _)
  generalize rowA (fun _ => 0) 512 = Z at *
  clear hi
  go_enter Tryz.func75, Tryz.ntmps75
  go_wp2_with fail
  go_ret
  exact ⟨rfl, HN.out, HB.out⟩
theorem reach_tab (g : Nat) (x : Int) (w : World) : Calls Tryz.prog 130 #[.pointer (some ⟨g, 0, none⟩), .int .i64 x] w fun e w' => e = .returned (.bool (decide (0 ≤ x) && decide (x < 512))) ∧ w = w' := by
  by_cases h : 0 ≤ x
  · have hd : decide (0 ≤ x) = true := decide_eq_true h
    go_enter Tryz.func130, Tryz.ntmps130
    go_wp2_with fail
    go_ret
    exact ⟨by simp [hd], rfl⟩
  · have hd : decide (0 ≤ x) = false := decide_eq_false h
    go_enter Tryz.func130, Tryz.ntmps130
    go_wp2_with fail
    go_ret
    exact ⟨by simp [hd], rfl⟩
theorem leaf_tab (g : Nat) (x : Int) (w : World) : Calls Tryz.prog 175 #[.pointer (some ⟨g, 0, none⟩), .int .i64 x] w fun e w' => e = .returned (.bool (decide (0 ≤ x) && decide (x < 4))) ∧ w = w' := by
  by_cases h : 0 ≤ x
  · have hd : decide (0 ≤ x) = true := decide_eq_true h
    go_enter Tryz.func175, Tryz.ntmps175
    go_wp2_with fail
    go_ret
    exact ⟨by simp [hd], rfl⟩
  · have hd : decide (0 ≤ x) = false := decide_eq_false h
    go_enter Tryz.func175, Tryz.ntmps175
    go_wp2_with fail
    go_ret
    exact ⟨by simp [hd], rfl⟩
theorem isPage_any (x : Int) (w : World) : Calls Tryz.prog 174 #[.int .i64 x] w fun e w' => e = .returned (.bool (pgI x)) ∧ w = w' := by
  unfold pgI
  by_cases h : 2 ≤ x
  · have hd : decide (2 ≤ x) = true := decide_eq_true h
    go_enter Tryz.func174, Tryz.ntmps174
    go_wp2_with fail
    go_ret
    exact ⟨by simp [hd], rfl⟩
  · have hd : decide (2 ≤ x) = false := decide_eq_false h
    go_enter Tryz.func174, Tryz.ntmps174
    go_wp2_with fail
    go_ret
    exact ⟨by simp [hd], rfl⟩
def mayI (x : Int) : Bool := (x == 0) || pgI x
theorem may_any7 (x : Int) (w : World) : Calls Tryz.prog 181 #[.int .i64 x] w fun e w' => e = .returned (.bool (mayI x)) ∧ w = w' := by
  unfold mayI
  by_cases h : x = 0
  · subst h
    go_enter Tryz.func181, Tryz.ntmps181
    go_wp2_with fail
    go_ret
    exact ⟨rfl, rfl⟩
  · have hd : (x == 0) = false := beq_eq_false_iff_ne.2 h
    go_enter Tryz.func181, Tryz.ntmps181
    go_wp2_with (go_at_call 174; refine (isPage_any x _).mono ?_; rintro e w7 ⟨rfl, rfl⟩)
    go_ret
    exact ⟨by rw [hd, Bool.false_or]; rfl, rfl⟩
theorem tdiv_nat (i : Nat) : Int.tdiv (i : Int) 128 = ((i / 128 : Nat) : Int) := by rw [Int.tdiv_eq_ediv_of_nonneg (by omega)]; omega
theorem tmod_nat (i : Nat) : Int.tmod (i : Int) 128 = ((i % 128 : Nat) : Int) := by rw [Int.tmod_eq_emod_of_nonneg (by omega)]; omega
theorem told_int (f : Nat → Nat) (i : Nat) : told f i = !(((f i : Nat) : Int) == 0) := by
  unfold told
  rcases f i with _ | n
  · rfl
  · rfl
set_option maxHeartbeats 800000 in
theorem get_in {w : World} {g : Nat} {f : Nat → Nat} (h : Tab w g f) (i : Nat) (hi : i < 512) : Calls Tryz.prog 77 #[.pointer (some ⟨g, 0, none⟩), .int .i64 (i : Int)] w fun e w' => e = .returned (.tuple #[.int .i64 ((f i : Nat) : Int), .bool (told f i)]) ∧ w = w' := by
  have hd1 : decide ((0 : Int) ≤ (i : Int)) = true := decide_eq_true (by omega)
  have hd2 : decide ((i : Int) < 512) = true := decide_eq_true (by omega)
  have hc := h.row.cell i hi
  have hT := tdiv_nat i
  have hM := tmod_nat i
  have hq : i / 128 < 4 := by omega
  have hr : i % 128 < 128 := Nat.mod_lt _ (by omega)
  have he : i = i / 128 * 128 + i % 128 := by omega
  rw [he] at hc
  have HE := Lib.hid he
  have HF : Hid (f (i / 128 * 128 + i % 128) = f i) := Lib.hid (by rw [← he])
  have HI := Lib.hid hi
  clear he h hi
  generalize i / 128 = q at *
  generalize i % 128 = r at *
  rw [HF.out] at hc
  have HT : Hid (told f i = !(((f i : Nat) : Int) == 0)) := Lib.hid (told_int f i)
  rw [HT.out]
  generalize f i = v at *
  have HR : Hid (∀ w, Calls Tryz.prog 130 #[.pointer (some ⟨g, 0, none⟩), .int .i64 (i : Int)] w fun e w' => e = .returned (.bool true) ∧ w = w') := Lib.hid fun w => by
    have := reach_tab g (i : Int) w
    rwa [hd1, hd2] at this
  clear hd1 hd2
  go_enter Tryz.func77, Tryz.ntmps77
  go_wp2_with (go_at_call 130; refine (HR.out _).mono ?_; rintro e w7 ⟨rfl, rfl⟩)
  go_ret2
  exact ⟨rfl, rfl⟩
theorem get_out (g : Nat) (x : Int) (w : World) (h : ¬ (0 ≤ x ∧ x < 512)) : Calls Tryz.prog 77 #[.pointer (some ⟨g, 0, none⟩), .int .i64 x] w fun e w' => e = .returned (.tuple #[.int .i64 0, .bool false]) ∧ w = w' := by
  have HR : Hid (∀ w, Calls Tryz.prog 130 #[.pointer (some ⟨g, 0, none⟩), .int .i64 x] w fun e w' => e = .returned (.bool false) ∧ w = w') := Lib.hid fun w => by
    have := reach_tab g x w
    have e : (decide (0 ≤ x) && decide (x < 512)) = false := by rw [← Bool.decide_and]; exact decide_eq_false h
    rwa [e] at this
  clear h
  go_enter Tryz.func77, Tryz.ntmps77
  go_wp2_with (go_at_call 130; refine (HR.out _).mono ?_; rintro e w7 ⟨rfl, rfl⟩)
  go_ret2
  exact ⟨rfl, rfl⟩
theorem get_any {w : World} {g : Nat} {f : Nat → Nat} (h : Tab w g f) (x : Int) : Calls Tryz.prog 77 #[.pointer (some ⟨g, 0, none⟩), .int .i64 x] w fun e w' => e = .returned (.tuple #[.int .i64 ((getI f x : Nat) : Int), .bool (!(getI f x == 0))]) ∧ w = w' := by
  by_cases hx : 0 ≤ x ∧ x < 512
  · obtain ⟨i, rfl⟩ := Int.eq_ofNat_of_zero_le hx.1
    rw [getI_nat f (by omega)]
    exact get_in h i (by omega)
  · rw [getI_out f hx]
    exact get_out g x w hx
set_option maxHeartbeats 800000 in
theorem set_in {w : World} {g : Nat} {f : Nat → Nat} (h : Tab w g f) (i v : Nat) (hi : i < 512) (hv : pgI (v : Int) = true) : Calls Tryz.prog 139 #[.pointer (some ⟨g, 0, none⟩), .int .i64 (i : Int), .int .i64 (v : Int)] w fun e w' => e = .returned (.int .i64 0) ∧ Tab w' g (updN f i v) ∧ Only g w w' := by
  have hc := h.row.cell i hi
  have hf := h.row.free i
  have HR : Hid (∀ w, Calls Tryz.prog 130 #[.pointer (some ⟨g, 0, none⟩), .int .i64 (i : Int)] w fun e w' => e = .returned (.bool true) ∧ w = w') := Lib.hid fun w => by
    have := reach_tab g (i : Int) w
    rwa [decide_eq_true (show (0 : Int) ≤ (i : Int) by omega), decide_eq_true (show (i : Int) < 512 by omega)] at this
  have HV : Hid (∀ w, Calls Tryz.prog 174 #[.int .i64 (v : Int)] w fun e w' => e = .returned (.bool true) ∧ w = w') := Lib.hid fun w => by
    have := isPage_any (v : Int) w
    rwa [hv] at this
  have HS : Hid (Tab (w.setCell ⟨g, i, none⟩ (.int .i64 (v : Int))) g (updN f i v)) := Lib.hid ⟨h.row.put i v, h.ok.upd i (pgI_nat hv)⟩
  have HO : Hid (Only g w (w.setCell ⟨g, i, none⟩ (.int .i64 (v : Int)))) := Lib.hid (Only.setCell g i _ w)
  have hT := tdiv_nat i
  have hM := tmod_nat i
  have hq : i / 128 < 4 := by omega
  have hr : i % 128 < 128 := Nat.mod_lt _ (by omega)
  have HE : Hid (i / 128 * 128 + i % 128 = i) := Lib.hid (by omega)
  rw [← HE.out] at hc hf HS HO
  have HI := Lib.hid hi
  clear h hi hv
  generalize i / 128 = q at *
  generalize i % 128 = r at *
  generalize f (q * 128 + r) = u at *
  generalize hK : updN f (q * 128 + r) v = K at *
  go_enter Tryz.func139, Tryz.ntmps139
  go_wp2_with (first | (go_at_call 130; refine (HR.out _).mono ?_; rintro e w7 ⟨rfl, rfl⟩) | (go_at_call 174; refine (HV.out _).mono ?_; rintro e w7 ⟨rfl, rfl⟩))
  go_ret
  refine ⟨rfl, ?_, HO.out⟩
  rw [← HE.out, hK]; exact HS.out
set_option maxHeartbeats 800000 in
theorem drop_in {w : World} {g : Nat} {f : Nat → Nat} (h : Tab w g f) (i : Nat) (hi : i < 512) (hv : f i ≠ 0) : Calls Tryz.prog 92 #[.pointer (some ⟨g, 0, none⟩), .int .i64 (i : Int)] w fun e w' => e = .returned (.bool true) ∧ Tab w' g (updN f i 0) ∧ Only g w w' := by
  have hc := h.row.cell i hi
  have hf := h.row.free i
  have HG : Hid (∀ w', w' = w → Calls Tryz.prog 77 #[.pointer (some ⟨g, 0, none⟩), .int .i64 (i : Int)] w' fun e w'' => e = .returned (.tuple #[.int .i64 ((f i : Nat) : Int), .bool true]) ∧ w' = w'') := Lib.hid fun w' e => by
    subst e
    have := get_in h i hi
    have e : told f i = true := by unfold told; simpa using hv
    rwa [e] at this
  have HS : Hid (Tab (w.setCell ⟨g, i, none⟩ (.int .i64 0)) g (updN f i 0)) := Lib.hid ⟨h.row.put i 0, h.ok.upd i rfl⟩
  have HO : Hid (Only g w (w.setCell ⟨g, i, none⟩ (.int .i64 0))) := Lib.hid (Only.setCell g i _ w)
  have hT := tdiv_nat i
  have hM := tmod_nat i
  have hq : i / 128 < 4 := by omega
  have hr : i % 128 < 128 := Nat.mod_lt _ (by omega)
  have HE : Hid (i / 128 * 128 + i % 128 = i) := Lib.hid (by omega)
  have hfi : f (i / 128 * 128 + i % 128) = f i := by rw [HE.out]
  rw [← HE.out] at hc hf HS HO
  rw [hfi] at hc
  have HI := Lib.hid hi
  clear h hi hv hfi
  generalize i / 128 = q at *
  generalize i % 128 = r at *
  generalize f i = u at *
  generalize hK : updN f (q * 128 + r) 0 = K at *
  go_enter Tryz.func92, Tryz.ntmps92
  go_wp2_with (go_at_call 77; refine (HG.out _ rfl).mono ?_; rintro e w7 ⟨rfl, rfl⟩)
  go_ret
  refine ⟨rfl, ?_, HO.out⟩
  rw [← HE.out, hK]; exact HS.out
/-- What a drop leaves. -/
def dropT (f : Nat → Nat) (x : Int) : Nat → Nat := if 0 ≤ x ∧ x < 512 then updN f x.toNat 0 else f
theorem updN_id (f : Nat → Nat) (i v : Nat) (h : f i = v) : updN f i v = f := by
  funext j; unfold updN; split
  · subst_vars; rfl
  · rfl
theorem drop_tab {w : World} {g : Nat} {f : Nat → Nat} (h : Tab w g f) (x : Int) : Calls Tryz.prog 92 #[.pointer (some ⟨g, 0, none⟩), .int .i64 x] w fun e w' => e = .returned (.bool (!(getI f x == 0))) ∧ Tab w' g (dropT f x) ∧ Only g w w' := by
  by_cases hv : getI f x = 0
  · have HG : Hid (∀ w', w' = w → Calls Tryz.prog 77 #[.pointer (some ⟨g, 0, none⟩), .int .i64 x] w' fun e w'' => e = .returned (.tuple #[.int .i64 0, .bool false]) ∧ w' = w'') := Lib.hid fun w' e => by
      subst e
      have := get_any h x
      rwa [hv] at this
    have e : dropT f x = f := by
      unfold dropT
      split
      · rename_i hx
        unfold getI at hv
        rw [if_pos hx] at hv
        exact updN_id f _ 0 hv
      · rfl
    rw [hv, e]
    have H := Lib.hid h
    clear h hv e
    go_enter Tryz.func92, Tryz.ntmps92
    go_wp2_with (go_at_call 77; refine (HG.out _ rfl).mono ?_; rintro e w7 ⟨rfl, rfl⟩)
    go_ret
    exact ⟨rfl, H.out, Only.refl _ _⟩
  · by_cases hx : 0 ≤ x ∧ x < 512
    · obtain ⟨i, rfl⟩ := Int.eq_ofNat_of_zero_le hx.1
      have e : (!(getI f (i : Int) == 0)) = true := by simpa using hv
      rw [e]
      rw [getI_nat f (by omega)] at hv
      unfold dropT
      rw [if_pos hx, Int.toNat_natCast]
      exact drop_in h i (by omega) hv
    · exact absurd (getI_out f hx) hv
end Go.Proofs.YtmbecjlioogbhaaGreatDoor.Tb
end
