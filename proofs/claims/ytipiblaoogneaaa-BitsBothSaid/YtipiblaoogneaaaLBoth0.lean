/- What Or and Less of two sets tell, by their numbers. -/
import Derived.Test.YtipiblaoogneaaaMade
import Derived.Test.YtipiblaoogneaaaOr
import Derived.Test.YtipiblaoogneaaaRef5
namespace Go.Proofs.Ytipiblaoogneaaa
open Go.ChangeShapes Go.WideShapes Go.ChangeAt Go.RowKit

theorem cut_trs_row {n m : Nat} {k : Nat → Bool} (hk : Sub m k) : cut n (trs (rowF k (need m))) = cut n k := by
  funext i
  unfold cut
  by_cases h : i < 8 * need m
  · rw [trs_rowF h]
  · rw [trs_far (by rw [rowF_len]; omega), hk i (by unfold need at h; omega)]
theorem both_cut {n : Nat} (t : Bool) (f k : Nat → Bool) (i : Nat) (h : i < n) : both t f k i = both t f (cut n k) i := by
  unfold both cut; rw [decide_eq_true h, Bool.true_and]
theorem both_none (t : Bool) (f : Nat → Bool) (n : Nat) : both t f (cut n (trs [])) = f := by
  rw [trs_nil, cut_false]
  funext i
  unfold both
  cases t <;> simp
/-- What Bytes tells of a set, for whoever asks later. -/
theorem bytes_later {w : World} {g b m : Nat} {k : Nat → Bool} (h : Sat w g b m k) : ∀ w', Below w.heap.size w w' → Calls Try.prog 17 #[.pointer (some ⟨g, 0, none⟩)] w' fun e w2 => (∃ p q c, e = .returned (.slice p q c) ∧ q ≤ 256 ∧ Bys w2 p q (rowF k (need m))) ∧ Below w'.heap.size w' w2 := fun w' hb => by
  refine (bytes_any (h.below hb)).mono ?_
  rintro e w2 ⟨⟨p, c, rfl, hY⟩, hb2⟩
  exact ⟨⟨p, need m, c, rfl, need_le h.le, hY⟩, hb2⟩
theorem bytes_none (w : World) : ∀ w', Below w.heap.size w w' → Calls Try.prog 17 #[.pointer none] w' fun e w2 => (∃ p q c, e = .returned (.slice p q c) ∧ q ≤ 256 ∧ Bys w2 p q []) ∧ Below w'.heap.size w' w2 := fun w' _ => by
  refine (bytes_nil w').mono ?_
  rintro e w2 ⟨rfl, rfl⟩
  exact ⟨⟨none, 0, 0, rfl, by omega, Bys.zero _ _⟩, Below.refl _ _⟩
theorem orc_any {w : World} {g b n : Nat} {f : Nat → Bool} (h : Sat w g b n f) (ov : Value) (bs : List Nat)
    (HO : Hid (∀ w', Below w.heap.size w w' → Calls Try.prog 17 #[ov] w' fun e w2 => (∃ p q c, e = .returned (.slice p q c) ∧ q ≤ 256 ∧ Bys w2 p q bs) ∧ Below w'.heap.size w' w2)) :
    Calls Try.prog 22 #[.pointer (some ⟨g, 0, none⟩), ov] w fun e w' => (∃ g' b', e = .returned (.pointer (some ⟨g', 0, none⟩)) ∧ w.heap.size ≤ g' ∧ w.heap.size ≤ b' ∧ Sat w' g' b' n (both true f (cut n (trs bs)))) ∧ Below w.heap.size w w' := by
  have HW := Lib.hid (with_44 h ov bs HO)
  clear h HO
  go_enter Try.func22, Try.ntmps22
  go_wp2_with (go_at_call 43; refine HW.out.mono ?_; rintro e w7 ⟨⟨g', b', rfl, h1, h2, hS⟩, hb⟩)
  go_ret
  exact ⟨⟨g', b', rfl, h1, h2, hS⟩, hb⟩
theorem lessc_any {w : World} {g b n : Nat} {f : Nat → Bool} (h : Sat w g b n f) (ov : Value) (bs : List Nat)
    (HO : Hid (∀ w', Below w.heap.size w w' → Calls Try.prog 17 #[ov] w' fun e w2 => (∃ p q c, e = .returned (.slice p q c) ∧ q ≤ 256 ∧ Bys w2 p q bs) ∧ Below w'.heap.size w' w2)) :
    Calls Try.prog 23 #[.pointer (some ⟨g, 0, none⟩), ov] w fun e w' => (∃ g' b', e = .returned (.pointer (some ⟨g', 0, none⟩)) ∧ w.heap.size ≤ g' ∧ w.heap.size ≤ b' ∧ Sat w' g' b' n (both false f (cut n (trs bs)))) ∧ Below w.heap.size w w' := by
  have HW := Lib.hid (with_45 h ov bs HO)
  clear h HO
  go_enter Try.func23, Try.ntmps23
  go_wp2_with (go_at_call 43; refine HW.out.mono ?_; rintro e w7 ⟨⟨g', b', rfl, h1, h2, hS⟩, hb⟩)
  go_ret
  exact ⟨⟨g', b', rfl, h1, h2, hS⟩, hb⟩
set_option maxHeartbeats 1600000 in
/-- Where the law asks for the example alone. -/
theorem both_out (x y : Int) (p q : Option Addr) (n c m d : Nat) (w : World) (h : ¬ ((0 ≤ x ∧ x ≤ 200) ∧ (0 ≤ y ∧ y ≤ 200))) :
    Calls Try.prog 6 #[.agg #[.int .i64 x, .int .i64 y], .slice p n c, .slice q m d] w fun e w' => e = .returned (.bool true) ∧ Below w.heap.size w w' := by
  have hx : (w.alloc (.cells #[.int .i64 x, .int .i64 y] 52)).cell? ⟨w.heap.size, 0, none⟩ = some (.int .i64 x) := World.cell?_alloc_new w _ _ 0
  have hy : (w.alloc (.cells #[.int .i64 x, .int .i64 y] 52)).cell? ⟨w.heap.size, 1, none⟩ = some (.int .i64 y) := World.cell?_alloc_new w _ _ 1
  have hba := (Below.refl w.heap.size w).alloc (Nat.le_refl _) (.cells #[.int .i64 x, .int .i64 y] 52)
  by_cases h1 : x < 0
  · have d1 : decide (x < 0) = true := decide_eq_true h1
    clear h h1
    go_enter Try.func6, Try.ntmps6
    go_upto_region 1 with fail
    go_quiet (fail)
    go_wp2_with (go_at_call 8; refine (lives_any _).mono ?_; rintro e w1 ⟨rfl, hb⟩)
    go_ret
    exact ⟨rfl, Below.more (below_drewN hba _) hb (below_drewN hba _).size⟩
  · have d1 : decide (x < 0) = false := decide_eq_false h1
    by_cases h2 : y < 0
    · have d2 : decide (y < 0) = true := decide_eq_true h2
      clear h h1 h2
      go_enter Try.func6, Try.ntmps6
      go_upto_region 1 with fail
      go_quiet (fail)
      go_wp2_with (go_at_call 8; refine (lives_any _).mono ?_; rintro e w1 ⟨rfl, hb⟩)
      go_ret
      exact ⟨rfl, Below.more (below_drewN hba _) hb (below_drewN hba _).size⟩
    · have d2 : decide (y < 0) = false := decide_eq_false h2
      by_cases h3 : x ≤ 200
      · have d3 : decide (x ≤ 200) = true := decide_eq_true h3
        have d4 : decide (y ≤ 200) = false := decide_eq_false (by omega)
        clear h h1 h2 h3
        go_enter Try.func6, Try.ntmps6
        go_upto_region 1 with fail
        go_quiet (fail)
        go_wp2_with (first
          | (go_at_call 9; go_fit (few_any x _); rintro e w2 ⟨rfl, rfl⟩; rw [d3])
          | (go_at_call 9; go_fit (few_any y _); rintro e w2 ⟨rfl, rfl⟩; rw [d4])
          | (go_at_call 8; refine (lives_any _).mono ?_; rintro e w1 ⟨rfl, hb⟩))
        go_ret
        exact ⟨rfl, Below.more (below_drewN hba _) hb (below_drewN hba _).size⟩
      · have d3 : decide (x ≤ 200) = false := decide_eq_false h3
        clear h h1 h2 h3
        go_enter Try.func6, Try.ntmps6
        go_upto_region 1 with fail
        go_quiet (fail)
        go_wp2_with (first
          | (go_at_call 9; refine (few_any _ _).mono ?_; rintro e w2 ⟨rfl, rfl⟩; rw [d3])
          | (go_at_call 8; refine (lives_any _).mono ?_; rintro e w1 ⟨rfl, hb⟩))
        go_ret
        exact ⟨rfl, Below.more (below_drewN hba _) hb (below_drewN hba _).size⟩
end Go.Proofs.Ytipiblaoogneaaa
