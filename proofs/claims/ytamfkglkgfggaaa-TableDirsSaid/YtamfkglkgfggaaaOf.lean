/- What New, Of and twin return. -/
import Derived.Test.YtamfkglkgfggaaaFit
namespace Go.Proofs.Ytamfkglkgfggaaa
open Go.RowKit

theorem trs_nil : trs [] = fun _ => false := by funext i; exact trs_far (by simp)
theorem cut_false (n : Nat) : cut n (fun _ => false) = fun _ => false := by funext i; unfold cut; simp
theorem new_yes (n : Nat) (w : World) (hn : n ≤ 2048) :
    Calls Try.prog 19 #[.int .i64 (n : Int)] w fun e w' => (∃ g b, e = .returned (.tuple #[.pointer (some ⟨g, 0, none⟩), .int .i64 0]) ∧ w.heap.size ≤ g ∧ w.heap.size ≤ b ∧ Sat w' g b n (fun _ => false)) ∧ Below w.heap.size w w' := by
  have HF := Lib.hid (fun w => fit_any n none 0 0 [] w hn (by omega) (Bys.zero w none))
  rw [trs_nil, cut_false] at HF
  have HM : Hid (∀ w, Calls Try.prog 41 #[.int .i64 (n : Int)] w fun e w' => e = .returned (.bool true) ∧ w = w') := Lib.hid fun w => by
    have h := may_any (n : Int) w
    rwa [decide_eq_true (show (0 : Int) ≤ (n : Int) by omega), decide_eq_true (show (n : Int) ≤ 2048 by omega)] at h
  clear hn
  go_enter Try.func19, Try.ntmps19
  go_wp2_with (first
    | (go_at_call 41; refine (HM.out _).mono ?_; rintro e w7 ⟨rfl, rfl⟩)
    | (go_at_call 42; refine (HF.out _).mono ?_; rintro e w7 ⟨⟨g, b, rfl, h1, h2, hS⟩, hb⟩))
  go_ret2
  exact ⟨⟨g, b, rfl, h1, h2, hS⟩, hb⟩
theorem may_no {x : Int} (h : ¬ (0 ≤ x ∧ x ≤ 2048)) (w : World) : Calls Try.prog 41 #[.int .i64 x] w fun e w' => e = .returned (.bool false) ∧ w = w' := by
  have h2 := may_any x w
  have e : (decide (0 ≤ x) && decide (x ≤ 2048)) = false := by
    by_cases h0 : 0 ≤ x
    · rw [decide_eq_false (show ¬ x ≤ 2048 by omega), Bool.and_false]
    · rw [decide_eq_false h0, Bool.false_and]
  rwa [e] at h2
theorem new_no (x : Int) (w : World) (h : ¬ (0 ≤ x ∧ x ≤ 2048)) : Calls Try.prog 19 #[.int .i64 x] w fun e w' => e = .returned (.tuple #[.pointer none, .int .i64 1]) ∧ w = w' := by
  have HM := Lib.hid (may_no h)
  clear h
  go_enter Try.func19, Try.ntmps19
  go_wp2_with (go_at_call 41; refine (HM.out _).mono ?_; rintro e w7 ⟨rfl, rfl⟩)
  go_ret2
  exact ⟨rfl, rfl⟩
/-- Why there is no set of these bytes; 0: there is one. -/
def ofE (x : Int) (bs : List Nat) : Int :=
  if ¬ (0 ≤ x ∧ x ≤ 2048) then 1 else if need x.toNat < bs.length then 2 else if bs.length < need x.toNat then 3
  else if rowF (cut x.toNat (trs bs)) (need x.toNat) = bs then 0 else 4
/-- What Of tells of it. -/
def OfR (W w' : World) (x : Int) (bs : List Nat) (v : Value) : Prop :=
  (ofE x bs = 0 ∧ ∃ g b, v = .pointer (some ⟨g, 0, none⟩) ∧ W.heap.size ≤ g ∧ W.heap.size ≤ b ∧ Sat w' g b x.toNat (trs bs)) ∨ (ofE x bs ≠ 0 ∧ v = .pointer none)
theorem cut_trs {n : Nat} {bs : List Nat} (hl : bs.length = need n) (h : rowF (cut n (trs bs)) (need n) = bs) : cut n (trs bs) = trs bs := by
  funext i
  by_cases hi : i < n
  · unfold cut; rw [decide_eq_true hi, Bool.true_and]
  · have h1 : cut n (trs bs) i = false := by unfold cut; rw [decide_eq_false hi]; rfl
    rw [h1]
    by_cases h2 : i < 8 * need n
    · have h3 := trs_rowF (f := cut n (trs bs)) h2
      rw [h, h1] at h3; exact h3.symm
    · exact (trs_far (by rw [hl]; omega)).symm
set_option maxHeartbeats 800000 in
theorem of_any (x : Int) (p : Option Addr) (k c : Nat) (bs : List Nat) (w : World) (hk : k ≤ 140737488351232) (hB : Bys w p k bs) :
    Calls Try.prog 49 #[.int .i64 x, .slice p k c] w fun e w' => (∃ v, e = .returned (.tuple #[v, .int .i64 (ofE x bs)]) ∧ OfR w w' x bs v) ∧ Below w.heap.size w w' := by
  have hl := hB.len
  by_cases hin : 0 ≤ x ∧ x ≤ 2048
  · obtain ⟨n, rfl⟩ := Int.eq_ofNat_of_zero_le hin.1
    have hn : n ≤ 2048 := by omega
    have HM : Hid (∀ w, Calls Try.prog 41 #[.int .i64 (n : Int)] w fun e w' => e = .returned (.bool true) ∧ w = w') := Lib.hid fun w => by
      have h := may_any (n : Int) w
      rwa [decide_eq_true (show (0 : Int) ≤ (n : Int) by omega), decide_eq_true (show (n : Int) ≤ 2048 by omega)] at h
    have HN := Lib.hid (fun w => need_any n w (by omega))
    by_cases h1 : need n < k
    · have hE : ofE (n : Int) bs = 2 := by unfold ofE; rw [if_neg (not_not_intro hin), if_pos (by rw [Int.toNat_natCast, hl]; exact h1)]
      have hd : decide ((need n : Int) < (k : Int)) = true := decide_eq_true (by omega)
      have hdn : decide (need n < k) = true := decide_eq_true h1
      rw [hE]
      have HE := Lib.hid hE
      clear hin hn hB hk hE h1
      go_enter Try.func49, Try.ntmps49
      go_wp2_with (first
        | (go_at_call 41; refine (HM.out _).mono ?_; rintro e w7 ⟨rfl, rfl⟩)
        | (go_at_call 58; refine (HN.out _).mono ?_; rintro e w7 ⟨rfl, rfl⟩))
      go_ret2
      exact ⟨⟨_, rfl, .inr ⟨by rw [HE.out]; decide, rfl⟩⟩, Below.refl _ _⟩
    · have hd : decide ((need n : Int) < (k : Int)) = false := decide_eq_false (by omega)
      have hdn : decide (need n < k) = false := decide_eq_false h1
      by_cases h2 : k < need n
      · have hE : ofE (n : Int) bs = 3 := by unfold ofE; rw [if_neg (not_not_intro hin), if_neg (by rw [Int.toNat_natCast, hl]; exact h1), if_pos (by rw [Int.toNat_natCast, hl]; exact h2)]
        have hd2 : decide ((k : Int) < (need n : Int)) = true := decide_eq_true (by omega)
        have hd2n : decide (k < need n) = true := decide_eq_true h2
        rw [hE]
        have HE := Lib.hid hE
        clear hin hn hB hk hE h1 h2
        go_enter Try.func49, Try.ntmps49
        go_wp2_with (first
          | (go_at_call 41; refine (HM.out _).mono ?_; rintro e w7 ⟨rfl, rfl⟩)
          | (go_at_call 58; refine (HN.out _).mono ?_; rintro e w7 ⟨rfl, rfl⟩))
        go_ret2
        exact ⟨⟨_, rfl, .inr ⟨by rw [HE.out]; decide, rfl⟩⟩, Below.refl _ _⟩
      · have hd2 : decide ((k : Int) < (need n : Int)) = false := decide_eq_false (by omega)
        have hd2n : decide (k < need n) = false := decide_eq_false h2
        have hkn : k = need n := by omega
        have HF := Lib.hid (fit_any n p k c bs w hn hk hB)
        have HB := Lib.hid hB
        by_cases h3 : rowF (cut n (trs bs)) (need n) = bs
        · have hE : ofE (n : Int) bs = 0 := by unfold ofE; rw [if_neg (not_not_intro hin), if_neg (by rw [Int.toNat_natCast, hl]; exact h1), if_neg (by rw [Int.toNat_natCast, hl]; exact h2), if_pos (by rw [Int.toNat_natCast]; exact h3)]
          have HE := Lib.hid hE
          have HC := Lib.hid (cut_trs (by omega) h3)
          have H3 := Lib.hid (decide_eq_true h3)
          rw [hE]
          clear hin hn hB hk hE h1 h2 h3 hkn
          go_enter Try.func49, Try.ntmps49
          go_wp2_with (first
            | (go_at_call 41; refine (HM.out _).mono ?_; rintro e w7 ⟨rfl, rfl⟩)
            | (go_at_call 58; refine (HN.out _).mono ?_; rintro e w7 ⟨rfl, rfl⟩)
            | (go_at_call 42; refine HF.out.mono ?_; rintro e w7 ⟨⟨g, b, rfl, hg1, hg2, hS⟩, hb⟩; have l1 := hS.c1)
            | (go_at_call 52; refine (equal_any _ _ _ _ _ _ _ _ _ hS.bys (HB.out.below hb)).mono ?_; rintro e w8 ⟨rfl, rfl⟩; rw [H3.out]))
          go_ret2
          exact ⟨⟨_, rfl, .inl ⟨HE.out, g, b, rfl, hg1, hg2, by rw [Int.toNat_natCast, ← HC.out]; exact hS⟩⟩, hb⟩
        · have hE : ofE (n : Int) bs = 4 := by unfold ofE; rw [if_neg (not_not_intro hin), if_neg (by rw [Int.toNat_natCast, hl]; exact h1), if_neg (by rw [Int.toNat_natCast, hl]; exact h2), if_neg (by rw [Int.toNat_natCast]; exact h3)]
          have HE := Lib.hid hE
          have H3 := Lib.hid (decide_eq_false h3)
          rw [hE]
          clear hin hn hB hk hE h1 h2 h3 hkn
          go_enter Try.func49, Try.ntmps49
          go_wp2_with (first
            | (go_at_call 41; refine (HM.out _).mono ?_; rintro e w7 ⟨rfl, rfl⟩)
            | (go_at_call 58; refine (HN.out _).mono ?_; rintro e w7 ⟨rfl, rfl⟩)
            | (go_at_call 42; refine HF.out.mono ?_; rintro e w7 ⟨⟨g, b, rfl, hg1, hg2, hS⟩, hb⟩; have l1 := hS.c1)
            | (go_at_call 52; refine (equal_any _ _ _ _ _ _ _ _ _ hS.bys (HB.out.below hb)).mono ?_; rintro e w8 ⟨rfl, rfl⟩; rw [H3.out]))
          go_ret2
          exact ⟨⟨_, rfl, .inr ⟨by rw [HE.out]; decide, rfl⟩⟩, hb⟩
  · have HM := Lib.hid (may_no hin)
    have hE : ofE x bs = 1 := by unfold ofE; rw [if_pos hin]
    rw [hE]
    have HE := Lib.hid hE
    clear hin hB hk hE
    go_enter Try.func49, Try.ntmps49
    go_wp2_with (go_at_call 41; refine (HM.out _).mono ?_; rintro e w7 ⟨rfl, rfl⟩)
    go_ret2
    exact ⟨⟨_, rfl, .inr ⟨by rw [HE.out]; decide, rfl⟩⟩, Below.refl _ _⟩
end Go.Proofs.Ytamfkglkgfggaaa
