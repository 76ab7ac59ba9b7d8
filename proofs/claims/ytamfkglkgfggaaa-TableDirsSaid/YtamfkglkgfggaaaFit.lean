/- The set of a size that is made of a copy of bytes. -/
import Derived.Test.YtamfkglkgfggaaaClone
import Derived.Laws.CopyOwn
namespace Go.Proofs.Ytamfkglkgfggaaa
open Go.RowKit

theorem byt_cut (f : Nat → Bool) (n : Nat) : byt f (n / 8) % 2 ^ (n % 8) = byt (cut n f) (n / 8) := by
  apply Nat.eq_of_testBit_eq
  intro k
  rw [Nat.testBit_mod_two_pow, byt_bit, byt_bit]
  unfold cut
  by_cases hk : k < 8
  · rw [decide_eq_true hk, Bool.true_and, Bool.true_and]
    by_cases h : k < n % 8
    · rw [decide_eq_true h, decide_eq_true (show 8 * (n / 8) + k < n by omega)]
    · rw [decide_eq_false h, decide_eq_false (show ¬ 8 * (n / 8) + k < n by omega), Bool.false_and]
  · rw [decide_eq_false hk]; simp
theorem rowF_cut {f : Nat → Bool} {n : Nat} (h : n % 8 ≠ 0) : (rowF f (need n)).set (need n - 1) (byt f (need n - 1) % 2 ^ (n % 8)) = rowF (cut n f) (need n) := by
  have hm : need n - 1 = n / 8 := by unfold need; omega
  have hn : n / 8 < need n := by unfold need; omega
  rw [hm, byt_cut]
  refine getD_ext (by simp [rowF_len]) fun j hj => ?_
  rw [List.length_set, rowF_len] at hj
  rw [rowF_getD _ _ _ hj, List.getD_eq_getElem?_getD, List.getElem?_set]
  by_cases h : n / 8 = j
  · subst h; simp [rowF_len, hj]
  · rw [if_neg h, ← List.getD_eq_getElem?_getD, rowF_getD _ _ _ hj]
    refine byt_congr fun i hi => ?_
    unfold cut
    rw [decide_eq_true (show 8 * j + i < n by unfold need at hj; omega), Bool.true_and]
theorem rowF_cut0 {f : Nat → Bool} {n : Nat} (h : n % 8 = 0) : rowF f (need n) = rowF (cut n f) (need n) := by
  refine rowF_congr fun i hi => ?_
  unfold cut
  rw [decide_eq_true (show i < n by unfold need at hi; omega), Bool.true_and]
/-- What copying leaves in a row of zeros. -/
theorem copied_row (bs : List Nat) (m : Nat) (hd : ∀ x ∈ bs, x < 256) : bs.take m ++ (List.replicate m 0).drop (bs.take m).length = rowF (trs bs) m := by
  refine getD_ext (by rw [rowF_len]; simp; omega) fun j hj => ?_
  have hl : (bs.take m ++ (List.replicate m 0).drop (bs.take m).length).length = m := by simp; omega
  rw [hl] at hj
  rw [rowF_getD _ _ _ hj]
  have hg : bs.getD j 0 < 256 := by
    rw [List.getD_eq_getElem?_getD]
    cases e : bs[j]? with
    | none => decide
    | some x => exact hd x (List.mem_of_getElem? e)
  rw [byt_trs _ _ hg]
  by_cases h : j < (bs.take m).length
  · rw [List.getD_eq_getElem?_getD, List.getElem?_append_left h, ← List.getD_eq_getElem?_getD, getD_take _ _ _ hj]
  · rw [List.getD_eq_getElem?_getD, List.getElem?_append_right (by omega), List.getElem?_drop, List.getElem?_replicate]
    have h2 : bs.length ≤ j := by rw [List.length_take] at h; omega
    rw [List.getD_eq_getElem?_getD, List.getElem?_eq_none h2]
    split <;> rfl
theorem zeros_of (n : Nat) : (madeCells #[Value.int .u8 0] n).toList = u8s (List.replicate n 0) := by
  rw [toList_madeCells_one]
  unfold u8s
  rw [List.map_replicate]; rfl
theorem u8s_take (bs : List Nat) (m : Nat) : (u8s bs).take m = u8s (bs.take m) := by unfold u8s; rw [List.map_take]
theorem u8s_drop (bs : List Nat) (m : Nat) : (u8s bs).drop m = u8s (bs.drop m) := by unfold u8s; rw [List.map_drop]
set_option maxRecDepth 20000 in
set_option maxHeartbeats 1600000 in
theorem fit_any (n : Nat) (p : Option Addr) (k c : Nat) (bs : List Nat) (w : World) (hn : n ≤ 2048) (hk : k ≤ 140737488351232) (hB : Bys w p k bs) :
    Calls Try.prog 42 #[.int .i64 (n : Int), .slice p k c] w fun e w' => (∃ g b, e = .returned (.pointer (some ⟨g, 0, none⟩)) ∧ w.heap.size ≤ g ∧ w.heap.size ≤ b ∧ Sat w' g b n (cut n (trs bs))) ∧ Below w.heap.size w w' := by
  obtain ⟨m, hm⟩ : ∃ m, Hid (need n = m) := ⟨_, Lib.hid rfl⟩
  have hm2 : m ≤ 256 := by rw [← hm.out]; exact need_le hn
  obtain ⟨i0, hi, hz0, hz1, hz2⟩ := info_parts Try.info5
  obtain ⟨C0, HC⟩ : ∃ C0, Hid (madeCells (Value.int IntKind.u8 0).cells m = C0) := ⟨_, Lib.hid rfl⟩
  have HCl : Hid (C0.toList = u8s (List.replicate m 0)) := Lib.hid (by rw [← HC.out]; exact zeros_of m)
  have HCs : Hid (C0.size = m) := by rw [← HC.out]; exact Lib.hid (size_madeCells _ _)
  have hmk : ∀ w : World, (Instr.makeSlice 35 (.int .i64 (m : Int)) (.int .i64 (m : Int))).run Try.prog w = .ok (.slice (some ⟨w.heap.size, 0, none⟩) m m) (w.alloc (.cells C0 5)) := fun w => by
    have h := run_make (P := Try.prog) w 35 5 i0 _ Try.underlying35 hi hz0 .i64 .i64 m m (by omega) (by omega) (by rw [hz2]; omega) (by omega)
    rw [hz1, Int.toNat_natCast, Nat.mul_one, HC.out] at h
    exact h
  have HB := Lib.hid hB
  clear hB hi hz0 hz1 hz2
  have HL : Hid ((u8s (bs.take m)).length = k.min m) := Lib.hid (by rw [u8s_len, List.length_take, HB.out.len]; exact Nat.min_comm _ _)
  have hl0 : (Try.prog.info? 5).map (·.size) = some 1 := by kernel_rfl
  have HP := Lib.hid hl0
  clear hl0
  have K1 : Hid ((w.alloc (.cells C0 5)).heap[w.heap.size]? = some (.cells C0.toList.toArray 5 (0, 0))) := Lib.hid (by show (w.heap.push _)[w.heap.size]? = _; simp)
  have K5 : Hid (Below w.heap.size w (w.alloc (.cells C0 5))) := Lib.hid ((Below.refl _ _).alloc (Nat.le_refl _) _)
  have K3 : Hid (0 < (u8s (bs.take m)).length → ∃ ad, p = some ad ∧ ∀ j v, (u8s (bs.take m))[j]? = some v → (w.alloc (.cells C0 5)).cell? (ad.add j) = some v) :=
    Lib.hid fun h => by
      have h0 : 0 < k := by rw [HL.out] at h; rcases Nat.eq_zero_or_pos k with e | e
                            · subst e; simp [Nat.min] at h
                            · exact e
      obtain ⟨ad, e, hc⟩ := (HB.out.below K5.out).cells h0
      refine ⟨ad, e, fun j v hv => hc j v ?_⟩
      rw [← u8s_take, List.getElem?_take] at hv
      split at hv
      · exact hv
      · cases hv
  have K4 : Hid (0 + (u8s (bs.take m)).length ≤ C0.toList.length) := Lib.hid (by rw [HCl.out, u8s_len, u8s_len, List.length_take, List.length_replicate]; omega)
  have HNEED : Hid (∀ w, Calls Try.prog 58 #[.int .i64 (n : Int)] w fun e w' => e = .returned (.int .i64 (m : Int)) ∧ w = w') := Lib.hid fun w => by rw [← hm.out]; exact need_any n w (by omega)
  clear hm2
  go_enter Try.func42, Try.ntmps42
  go_wp2_with (first
    | (go_at_call 58; refine (HNEED.out _).mono ?_; rintro e w7 ⟨rfl, rfl⟩)
    | (with_reducible refine wpList_copy_splice (w := w.alloc (.cells C0 5)) rfl (.tmp 10) (.tmp 11) 35 35 rfl 5 Try.underlying35 HP.out (some ⟨w.heap.size, 0, none⟩) p m m k c rfl rfl w.heap.size 0 C0.toList 5 K1.out (u8s (bs.take m)) HL.out (fun h => ⟨rfl, K3.out h⟩) K4.out (u8s_one _) w.heap.size w K5.out (Nat.le_refl _) ?_))
  intro w2 hheap hb2
  have hm2 : m ≤ 256 := by rw [← hm.out]; exact need_le hn
  have HO : Hid (Row5 w2 w.heap.size m (rowF (trs bs) m)) := Lib.hid (by
    rw [← copied_row bs m HB.out.dig]
    refine ⟨by rw [u8s_len, List.length_append, List.length_drop, List.length_replicate, List.length_take]; omega, .inr ⟨w.heap.size, m, _, rfl, Nat.zero_le _, hheap.out, Nat.le_refl _, by unfold maxLen; omega, ?_, ?_⟩⟩
    · rw [List.size_toArray, length_splice _ _ _ K4.out, Array.length_toList, HCs.out, Nat.mul_one]
    · show List.take (m * 1) (splice C0.toList 0 (u8s (bs.take m))) = _
      rw [Nat.mul_one, HCl.out]
      unfold splice
      rw [List.take_zero, List.nil_append, Nat.zero_add, u8s_len, u8s_drop, ← u8s_append, List.take_of_length_le (by rw [u8s_len, List.length_append, List.length_drop, List.length_replicate, List.length_take]; omega)])
  have HB2 := Lib.hid hb2
  clear hheap hb2 hm2 K1 K3 K4 K5 HC HCl HCs hmk HL
  go_upto_if 16 with fail
  go_cut [6] (fun _ wx => Hid (Row5 wx w.heap.size m (rowF (cut n (trs bs)) m) ∧ Below w.heap.size w wx))
  case first =>
    by_cases h0 : n % 8 = 0
    · have hd : decide ((0 : Int) < (n : Int) % 8) = false := decide_eq_false (by omega)
      have HF : Hid (rowF (trs bs) m = rowF (cut n (trs bs)) m) := Lib.hid (by rw [← hm.out]; exact rowF_cut0 h0)
      go_wp2_with fail
      go_meet
      exact Lib.hid ⟨by rw [← HF.out]; exact HO.out, HB2.out⟩
    · have hd : decide ((0 : Int) < (n : Int) % 8) = true := decide_eq_true (by omega)
      obtain ⟨q, hq⟩ : ∃ q, m = q + 1 := ⟨m - 1, by have := hm.out; unfold need at this; omega⟩
      have HF : Hid ((rowF (trs bs) m).set q (byt (trs bs) q % 2 ^ (n % 8)) = rowF (cut n (trs bs)) m) := Lib.hid (by
        have h := rowF_cut (f := trs bs) (n := n) h0
        rw [hm.out, show m - 1 = q by omega] at h
        exact h)
      have hcell := HO.out.cell q (by omega)
      rw [rowF_getD _ _ _ (by omega)] at hcell
      have hfz := HO.out.fz q
      have e : (n : Int) % 8 = ((n % 8 : Nat) : Int) := by omega
      have hr : n % 8 < 8 := Nat.mod_lt _ (by decide)
      rw [e] at hd ⊢
      have hp : 2 ^ (n % 8) < 256 := Nat.lt_of_lt_of_le (Nat.pow_lt_pow_right (by decide) hr) (by decide)
      have hp0 : 0 < 2 ^ (n % 8) := Nat.pow_pos (by decide)
      have h8 : ∀ r : Fin 8, (2 : Int) ^ r.val % 256 = ((2 ^ r.val : Nat) : Int) := by decide
      have hsh := h8 ⟨n % 8, hr⟩
      have hmin : min (n % 8) 8 = n % 8 := Nat.min_eq_left (by omega)
      have hand : bits .and .u8 (byt (trs bs) q : Int) ((2 ^ (n % 8) - 1 : Nat) : Int) = ((byt (trs bs) q % 2 ^ (n % 8) : Nat) : Int) := by
        rw [u8_and_nat _ _ (byt_lt _ _) (by omega), Nat.and_two_pow_sub_one_eq_mod]
      have hi1 : (m : Int) - 1 = (q : Int) := by omega
      have hqi : (q : Int) ≤ 256 := by have := need_le hn; have := hm.out; omega
      have hi2 : IntKind.i64.wrap ((m : Int) - 1) = (q : Int) := by rw [IntKind.wrap_i64, hi1]; omega
      have hi3 : IntKind.i64.wrap (q : Int) = (q : Int) := by rw [IntKind.wrap_i64]; omega
      have hi4 : wrap64 (q : Int) = (q : Int) := by unfold wrap64; omega
      have hqm : q < m := by omega
      have HP2 := HO.out.put q (byt (trs bs) q % 2 ^ (n % 8))
      rw [HF.out] at HP2
      have HPP := Lib.hid HP2
      clear HP2 h8
      simp only at hsh
      generalize byt (trs bs) q % 2 ^ (n % 8) = y2 at *
      generalize byt (trs bs) q = y at *
      generalize hz : 2 ^ (n % 8) = z at *
      have hs1 : ((z : Int) - 1) % 256 = ((z - 1 : Nat) : Int) := by omega
      have hs2 : IntKind.u8.wrap ((z : Int) - 1) = ((z - 1 : Nat) : Int) := by rw [IntKind.wrap_u8']; omega
      have hs3 : (z : Int) - 1 = ((z - 1 : Nat) : Int) := by omega
      generalize z - 1 = z1 at *
      clear hp hp0 hr e hq hz
      generalize n % 8 = r at *
      go_wp2_with fail
      go_region
      all_goals
        go_wp2_with fail
        go_meet
        exact Lib.hid ⟨HPP.out.below (Below.refl _ _).drew, ((HB2.out.setCell (p := ⟨w.heap.size, q, none⟩) (Nat.le_refl _) _)).drew⟩
  case rest =>
    have HR := hcut
    clear hcut
    go_wp2_with fail
    go_ret
    have hb3 : Below wc.heap.size wc (wc.alloc (.cells #[.int .i64 (n : Int), .slice (some ⟨w.heap.size, 0, none⟩) m m] 91)) := (Below.refl _ _).alloc (Nat.le_refl _) _
    have hsz := HR.out.2.size
    have hlt := HR.out.1.lt
    refine ⟨⟨wc.heap.size, w.heap.size, rfl, hsz, Nat.le_refl _, hn, cut_sub _ _, by omega, ?_, ?_⟩, HR.out.2.alloc hsz _⟩
    · rw [hm.out]; exact heap_alloc_new wc _
    · rw [hm.out]; exact HR.out.1.below hb3
end Go.Proofs.Ytamfkglkgfggaaa
