/- What Or and Less tell: a set by itself. -/
import Derived.Test.YtipiblaoogneaaaWith
import Derived.Test.YtipiblaoogneaaaIter
namespace Go.Proofs.Ytipiblaoogneaaa
open Go.RowKit Go.Shelf

theorem rowF_set (f k : Nat → Bool) (m j : Nat) : (rowF f m).set j (byt k j) = rowF (fun i => if i / 8 = j then k i else f i) m := by
  refine getD_ext (by simp [rowF_len]) fun q hq => ?_
  rw [List.length_set, rowF_len] at hq
  rw [rowF_getD _ _ _ hq, List.getD_eq_getElem?_getD, List.getElem?_set]
  by_cases h : j = q
  · subst h
    rw [if_pos rfl, if_pos (by rw [rowF_len]; exact hq)]
    exact byt_congr fun i hi => by rw [if_pos (by omega)]
  · rw [if_neg h, ← List.getD_eq_getElem?_getD, rowF_getD _ _ _ hq]
    exact byt_congr fun i hi => by rw [if_neg (by omega)]
/-- So many bytes are put together. -/
def mix (t : Bool) (f k : Nat → Bool) (j : Nat) : Nat → Bool := fun i => if i < 8 * j then both t f k i else k i
theorem mix_zero (t : Bool) (f k : Nat → Bool) : mix t f k 0 = k := by funext i; unfold mix; rw [if_neg (by omega)]
theorem mix_byt (t : Bool) (f k : Nat → Bool) (j : Nat) : byt (mix t f k j) j = byt k j := byt_congr fun i hi => by unfold mix; rw [if_neg (by omega)]
theorem mix_succ (t : Bool) (f k : Nat → Bool) (j m : Nat) : (rowF (mix t f k j) m).set j (join t (byt f j) (byt k j)) = rowF (mix t f k (j + 1)) m := by
  rw [byt_join, rowF_set]
  refine rowF_congr fun i _ => ?_
  unfold mix
  by_cases h1 : i / 8 = j
  · rw [if_pos h1, if_pos (by omega)]
  · rw [if_neg h1]
    by_cases h2 : i < 8 * j
    · rw [if_pos h2, if_pos (by omega)]
    · rw [if_neg h2, if_neg (by omega)]
theorem both_sub {n : Nat} {t : Bool} {f k : Nat → Bool} (hf : Sub n f) (hk : Sub n k) : Sub n (both t f k) := fun i hi => by unfold both; rw [hf i hi, hk i hi]; cases t <;> rfl
theorem mix_sub {n : Nat} {t : Bool} {f k : Nat → Bool} (hf : Sub n f) (hk : Sub n k) (j : Nat) : Sub n (mix t f k j) := fun i hi => by
  unfold mix; split
  · exact both_sub hf hk i hi
  · exact hk i hi
theorem mix_all {n : Nat} {t : Bool} {f k : Nat → Bool} (hf : Sub n f) (hk : Sub n k) : mix t f k (need n) = both t f k :=
  sub_ext (mix_sub hf hk _) (both_sub hf hk) fun i hi => by unfold mix; rw [if_pos (by unfold need; omega)]
theorem Sat.setj {w : World} {g b n : Nat} {t : Bool} {f k : Nat → Bool} {j : Nat} (h : Sat w g b n (mix t f k j)) (hf : Sub n f) (hk : Sub n k) : Sat (w.setCell ⟨b, j, none⟩ (.int .u8 (join t (byt f j) (byt k j) : Int))) g b n (mix t f k (j + 1)) :=
  ⟨h.le, mix_sub hf hk _, h.ne, (Below.heap_setCell w _ _ g (by show g ≠ b; exact h.ne)).trans h.box, by
    have h2 := h.row.put j (join t (byt f j) (byt k j))
    rw [mix_succ] at h2; exact h2⟩

set_option maxRecDepth 20000 in
set_option maxHeartbeats 3200000 in
theorem with_44 {w : World} {g b n : Nat} {f : Nat → Bool} (h : Sat w g b n f) (ov : Value) (bs : List Nat)
    (HO : Hid (∀ w', Below w.heap.size w w' → Calls Try.prog 17 #[ov] w' fun e w2 => (∃ p q c, e = .returned (.slice p q c) ∧ q ≤ 256 ∧ Bys w2 p q bs) ∧ Below w'.heap.size w' w2)) :
    Calls Try.prog 43 #[.pointer (some ⟨g, 0, none⟩), ov, .func (.func 44) #[] #[]] w fun e w' => (∃ g' b', e = .returned (.pointer (some ⟨g', 0, none⟩)) ∧ w.heap.size ≤ g' ∧ w.heap.size ≤ b' ∧ Sat w' g' b' n (both true f (cut n (trs bs)))) ∧ Below w.heap.size w w' := by
  have eg : ∀ args w, (callFunc 44 args).run Try.prog w = .ok (.enter 44 args) w := enters_of Try.func44 (by kernel_rfl) rfl
  have H := Lib.hid h
  have HSub := Lib.hid h.sub
  have HN := Lib.hid h.le
  have l0 := h.c0
  clear h
  go_enter Try.func43, Try.ntmps43
  go_upto_region 3 with fail
  go_cut [7] (fun v wx => ∃ gc bc, v = .pointer (some ⟨gc, 0, none⟩) ∧ Hid (w.heap.size ≤ gc ∧ w.heap.size ≤ bc ∧ Sat wx gc bc n (cut n (trs bs)) ∧ Below w.heap.size w wx))
  case first =>
    go_region_with (first
      | (go_at_call 17; refine (HO.out _ (by exact (Below.refl _ _).drew)).mono ?_; rintro e w2 ⟨⟨p, q, c, rfl, hq, hY⟩, hb2⟩; have hw2 := Below.trans (Below.refl _ _).drew hb2; have l02 := (H.out.below hw2).c0)
      | (go_at_call 28; refine (fit_any n p q c bs _ HN.out (by omega) hY).mono ?_; rintro e w3 ⟨⟨gc, bc, rfl, hg, hb, hS⟩, hb3⟩; have hw3 := hw2.trans (Below.mono hb3 hw2.size)))
    all_goals go_wp2_with fail
    all_goals go_meet
    all_goals exact ⟨gc, bc, rfl, Lib.hid ⟨Nat.le_trans hw2.size hg, Nat.le_trans hw2.size hb, hS, hw3⟩⟩
  case rest =>
  obtain ⟨gc, bc, rfl, HC⟩ := hcut
  clear l0
  have hKS := cut_sub n (trs bs)
  have HKS := Lib.hid hKS
  clear hKS
  have hS0 := HC.out.2.2.1
  rw [← mix_zero true f (cut n (trs bs))] at hS0
  have HS0 := Lib.hid hS0
  have l1 := hS0.c1
  have HMB := Lib.hid (need_le HN.out)
  have HMA : Hid (mix true f (cut n (trs bs)) (need n) = both true f (cut n (trs bs))) := Lib.hid (mix_all HSub.out HKS.out)
  have HNB : Hid (∀ j, j < need n → j < need n) := Lib.hid fun _ h => h
  obtain ⟨m, hm⟩ : ∃ m, Hid (need n = m) := ⟨_, Lib.hid rfl⟩
  rw [hm.out] at l1
  clear hS0
  obtain ⟨k, HKK⟩ : ∃ k, Hid (cut n (trs bs) = k) := ⟨_, Lib.hid rfl⟩
  rw [HKK.out] at HKS HS0 HMA
  go_wp2_with fail
  go_loopw [24, 8, 9] (fun iv _ _ wr => ∃ j : Nat, j ≤ m ∧ iv = .int .i64 (j : Int) ∧ Hid (Sat wr gc bc n (mix true f k j) ∧ Below w.heap.size w wr)) (fun iv _ _ _ => m - (intOf iv).toNat)
  case atStart => exact ⟨0, by omega, by go_num, Lib.hid ⟨HS0.out, HC.out.2.2.2⟩⟩
  case round =>
    obtain ⟨j, hj, rfl, HR⟩ := hrel
    by_cases hlt : j < m
    · have c1 := HR.out.1.c1
      have hjn : j < need n := by rw [hm.out]; exact hlt
      have cb := HR.out.1.byte j hjn
      rw [mix_byt] at cb
      have s1 := (H.out.below HR.out.2).c1
      have sb := (H.out.below HR.out.2).byte j hjn
      have fz := HR.out.1.row.fz j
      have HBX := Lib.hid (byt_lt f j)
      have HBY := Lib.hid (byt_lt k j)
      have HJ := Lib.hid (fun w => or_any (byt f j) (byt k j) w HBX.out HBY.out)
      have HSJ : Hid (Sat (wr.setCell ⟨bc, j, none⟩ (.int .u8 ((byt f j ||| byt k j : Nat) : Int))) gc bc n (mix true f k (j + 1))) := Lib.hid (HR.out.1.setj HSub.out HKS.out)
      have HBJ := Lib.hid (HR.out.2.setCell (p := ⟨bc, j, none⟩) HC.out.2.1 (.int .u8 ((byt f j ||| byt k j : Nat) : Int)))
      have hjz : (j : Int) ≤ 256 := by have := HMB.out; omega
      rw [hm.out] at c1 s1
      have q1 : gc ≠ bc := HR.out.1.ne
      have q2 : g ≠ bc := by have := H.out.glt; have := HC.out.2.1; omega
      have q3 : b ≠ bc := by have := H.out.blt; have := HC.out.2.1; omega
      have q4 := Ne.symm q1
      have q5 := Ne.symm q2
      have q6 := Ne.symm q3
      clear hjn
      generalize (byt f j ||| byt k j : Nat) = z at *
      generalize byt f j = x at *
      generalize byt k j = y at *
      go_wp2_with fail
      go_region_held3 (fun w' => w'.cell? ⟨gc, 1, none⟩ = some (.slice (some ⟨bc, 0, none⟩) m m) ∧ w'.cell? ⟨g, 1, none⟩ = some (.slice (some ⟨b, 0, none⟩) m m) ∧ w'.cell? ⟨b, j, none⟩ = some (.int .u8 (x : Int)))
        (go_keep) ((((first | go_at_fn 44 | skip); refine (HJ.out _).mono ?_; rintro e w9 ⟨rfl, rfl⟩)))
      all_goals
        go_wp2_with fail
        go_roundw
        case rel => exact ⟨j + 1, by omega, by go_num, Lib.hid ⟨HSJ.out.drew, HBJ.out.drew⟩⟩
        case measure => simp [intOf]; omega
    · obtain rfl : j = m := by omega
      go_wp2_with fail
      go_ret
      have hS := HR.out.1
      rw [← hm.out, HMA.out, ← HKK.out] at hS
      exact ⟨⟨gc, bc, rfl, HC.out.1, HC.out.2.1, hS⟩, HR.out.2⟩

set_option maxRecDepth 20000 in
set_option maxHeartbeats 3200000 in
theorem with_45 {w : World} {g b n : Nat} {f : Nat → Bool} (h : Sat w g b n f) (ov : Value) (bs : List Nat)
    (HO : Hid (∀ w', Below w.heap.size w w' → Calls Try.prog 17 #[ov] w' fun e w2 => (∃ p q c, e = .returned (.slice p q c) ∧ q ≤ 256 ∧ Bys w2 p q bs) ∧ Below w'.heap.size w' w2)) :
    Calls Try.prog 43 #[.pointer (some ⟨g, 0, none⟩), ov, .func (.func 45) #[] #[]] w fun e w' => (∃ g' b', e = .returned (.pointer (some ⟨g', 0, none⟩)) ∧ w.heap.size ≤ g' ∧ w.heap.size ≤ b' ∧ Sat w' g' b' n (both false f (cut n (trs bs)))) ∧ Below w.heap.size w w' := by
  have eg : ∀ args w, (callFunc 45 args).run Try.prog w = .ok (.enter 45 args) w := enters_of Try.func45 (by kernel_rfl) rfl
  have H := Lib.hid h
  have HSub := Lib.hid h.sub
  have HN := Lib.hid h.le
  have l0 := h.c0
  clear h
  go_enter Try.func43, Try.ntmps43
  go_upto_region 3 with fail
  go_cut [7] (fun v wx => ∃ gc bc, v = .pointer (some ⟨gc, 0, none⟩) ∧ Hid (w.heap.size ≤ gc ∧ w.heap.size ≤ bc ∧ Sat wx gc bc n (cut n (trs bs)) ∧ Below w.heap.size w wx))
  case first =>
    go_region_with (first
      | (go_at_call 17; refine (HO.out _ (by exact (Below.refl _ _).drew)).mono ?_; rintro e w2 ⟨⟨p, q, c, rfl, hq, hY⟩, hb2⟩; have hw2 := Below.trans (Below.refl _ _).drew hb2; have l02 := (H.out.below hw2).c0)
      | (go_at_call 28; refine (fit_any n p q c bs _ HN.out (by omega) hY).mono ?_; rintro e w3 ⟨⟨gc, bc, rfl, hg, hb, hS⟩, hb3⟩; have hw3 := hw2.trans (Below.mono hb3 hw2.size)))
    all_goals go_wp2_with fail
    all_goals go_meet
    all_goals exact ⟨gc, bc, rfl, Lib.hid ⟨Nat.le_trans hw2.size hg, Nat.le_trans hw2.size hb, hS, hw3⟩⟩
  case rest =>
  obtain ⟨gc, bc, rfl, HC⟩ := hcut
  clear l0
  have hKS := cut_sub n (trs bs)
  have HKS := Lib.hid hKS
  clear hKS
  have hS0 := HC.out.2.2.1
  rw [← mix_zero false f (cut n (trs bs))] at hS0
  have HS0 := Lib.hid hS0
  have l1 := hS0.c1
  have HMB := Lib.hid (need_le HN.out)
  have HMA : Hid (mix false f (cut n (trs bs)) (need n) = both false f (cut n (trs bs))) := Lib.hid (mix_all HSub.out HKS.out)
  have HNB : Hid (∀ j, j < need n → j < need n) := Lib.hid fun _ h => h
  obtain ⟨m, hm⟩ : ∃ m, Hid (need n = m) := ⟨_, Lib.hid rfl⟩
  rw [hm.out] at l1
  clear hS0
  obtain ⟨k, HKK⟩ : ∃ k, Hid (cut n (trs bs) = k) := ⟨_, Lib.hid rfl⟩
  rw [HKK.out] at HKS HS0 HMA
  go_wp2_with fail
  go_loopw [24, 8, 9] (fun iv _ _ wr => ∃ j : Nat, j ≤ m ∧ iv = .int .i64 (j : Int) ∧ Hid (Sat wr gc bc n (mix false f k j) ∧ Below w.heap.size w wr)) (fun iv _ _ _ => m - (intOf iv).toNat)
  case atStart => exact ⟨0, by omega, by go_num, Lib.hid ⟨HS0.out, HC.out.2.2.2⟩⟩
  case round =>
    obtain ⟨j, hj, rfl, HR⟩ := hrel
    by_cases hlt : j < m
    · have c1 := HR.out.1.c1
      have hjn : j < need n := by rw [hm.out]; exact hlt
      have cb := HR.out.1.byte j hjn
      rw [mix_byt] at cb
      have s1 := (H.out.below HR.out.2).c1
      have sb := (H.out.below HR.out.2).byte j hjn
      have fz := HR.out.1.row.fz j
      have HBX := Lib.hid (byt_lt f j)
      have HBY := Lib.hid (byt_lt k j)
      have HJ := Lib.hid (fun w => less_any (byt f j) (byt k j) w HBX.out HBY.out)
      have HSJ : Hid (Sat (wr.setCell ⟨bc, j, none⟩ (.int .u8 ((byt f j &&& (255 - byt k j) : Nat) : Int))) gc bc n (mix false f k (j + 1))) := Lib.hid (HR.out.1.setj HSub.out HKS.out)
      have HBJ := Lib.hid (HR.out.2.setCell (p := ⟨bc, j, none⟩) HC.out.2.1 (.int .u8 ((byt f j &&& (255 - byt k j) : Nat) : Int)))
      have hjz : (j : Int) ≤ 256 := by have := HMB.out; omega
      rw [hm.out] at c1 s1
      have q1 : gc ≠ bc := HR.out.1.ne
      have q2 : g ≠ bc := by have := H.out.glt; have := HC.out.2.1; omega
      have q3 : b ≠ bc := by have := H.out.blt; have := HC.out.2.1; omega
      have q4 := Ne.symm q1
      have q5 := Ne.symm q2
      have q6 := Ne.symm q3
      clear hjn
      generalize (byt f j &&& (255 - byt k j) : Nat) = z at *
      generalize byt f j = x at *
      generalize byt k j = y at *
      go_wp2_with fail
      go_region_held3 (fun w' => w'.cell? ⟨gc, 1, none⟩ = some (.slice (some ⟨bc, 0, none⟩) m m) ∧ w'.cell? ⟨g, 1, none⟩ = some (.slice (some ⟨b, 0, none⟩) m m) ∧ w'.cell? ⟨b, j, none⟩ = some (.int .u8 (x : Int)))
        (go_keep) ((((first | go_at_fn 45 | skip); refine (HJ.out _).mono ?_; rintro e w9 ⟨rfl, rfl⟩)))
      all_goals
        go_wp2_with fail
        go_roundw
        case rel => exact ⟨j + 1, by omega, by go_num, Lib.hid ⟨HSJ.out.drew, HBJ.out.drew⟩⟩
        case measure => simp [intOf]; omega
    · obtain rfl : j = m := by omega
      go_wp2_with fail
      go_ret
      have hS := HR.out.1
      rw [← hm.out, HMA.out, ← HKK.out] at hS
      exact ⟨⟨gc, bc, rfl, HC.out.1, HC.out.2.1, hS⟩, HR.out.2⟩
end Go.Proofs.Ytipiblaoogneaaa
