/- The document's PartMay. -/
import Derived.Test.YtpdihgmgcamgkaaKept
import Derived.Test.YtpdihgmgcamgkaaNeeds0
import Derived.Deep.Cut
set_option linter.unusedSimpArgs false
set_option maxRecDepth 20000
namespace Go.Proofs.Ytpdihgmgcamgkaa
open Go.RowKit

/-- May a part be? -/
def pm (p : Pt) : Bool := (numM p.k).ok && mayBeM p (numM p.k).lo (numM p.k).hi
theorem pm_sym (n : Int) (s : ByteArray) : pm ⟨4, n, s⟩ = (decide (n = 0) && okB s) := by
  unfold pm mayBeM numM
  by_cases h : n = 0
  · subst h; simp
  · have : ¬ (0 ≤ n ∧ n ≤ 0) := by omega
    simp [h]
    intro _ h1
    omega
theorem pm_out {k n : Int} {s : ByteArray} (h : k < 0 ∨ 8 < k) : pm ⟨k, n, s⟩ = false := by
  unfold pm
  rw [show (numM k).ok = false by rw [numM_other (by omega) (by omega) (by omega) (by omega) (by omega) (by omega) (by omega) (by omega) (by omega)]]
  rfl
theorem pm_str {k n : Int} {s : ByteArray} (hk : k ≠ 4) (h : s.size ≠ 0) : pm ⟨k, n, s⟩ = false := by
  unfold pm mayBeM
  simp [hk, h]
theorem pm_num {k n : Int} (hk : k ≠ 4) : pm ⟨k, n, ⟨#[]⟩⟩ = ((numM k).ok && (decide ((numM k).lo ≤ n) && decide (n ≤ (numM k).hi))) := by
  unfold pm mayBeM
  simp only
  rw [if_neg hk, show decide ((⟨#[]⟩ : ByteArray).size = 0) = true from rfl, Bool.true_and]
/-- The most that a part's number may be, by its kind. -/
def mostR (k : Nat) : Int := [(0 : Int), 1, 0, 127, 0, 255, 0, 0, 16384].getD k 0
theorem pm_at {k : Nat} {n : Int} (hk : k ≤ 8) (h4 : k ≠ 4) (h2 : k ≠ 2) : pm ⟨k, n, ⟨#[]⟩⟩ = (decide (0 ≤ n) && (decide (n ≤ mostR k) && (decide (k ≠ 8) || decide (0 < n)))) := by
  rw [pm_num (by omega)]
  rcases (show k = 0 ∨ k = 1 ∨ k = 3 ∨ k = 5 ∨ k = 6 ∨ k = 7 ∨ k = 8 by omega) with rfl | rfl | rfl | rfl | rfl | rfl | rfl
  all_goals
    rw [Bool.eq_iff_iff]
    simp [numM, mostR]
    try omega
theorem below_drewN' {B : Nat} {a w : World} (h : Below B a w) (n : Nat) : Below B a (w.drewN n) := ⟨h.os, h.tape, h.output, h.size, h.block⟩
set_option maxHeartbeats 3200000 in
theorem rpart_any (p : Pt) (w : World) (hI : I64 p.n) : Calls Try.prog 21 #[p.val] w fun e w' => e = .returned (.bool (pm p)) ∧ Below w.heap.size w w' := by
  obtain ⟨k, n, s⟩ := p
  unfold Pt.val
  simp only
  have HB : Hid (Below w.heap.size w (w.alloc (.cells #[.int .i64 k, .int .i64 n, .string s] 50))) := Lib.hid ((Below.refl _ _).alloc (Nat.le_refl _) _)
  by_cases h4 : k = 4
  · subst h4
    have HM := Lib.hid (fun w => rmay_any s w)
    rw [pm_sym]
    by_cases hn : n = 0
    · subst hn
      rw [show (decide ((0 : Int) = 0) && okB s) = okB s by simp]
      generalize okB s = o at *
      go_enter Try.func21, Try.ntmps21
      go_wp2_with fail
      refine (HM.out _).mono ?_
      rintro e w1 ⟨rfl, rfl⟩
      go_wp2_with fail
      go_ret
      exact ⟨rfl, HB.out⟩
    · have hb : (n == 0) = false := beq_eq_false_iff_ne.2 hn
      rw [decide_eq_false hn, Bool.false_and]
      clear hn
      go_enter Try.func21, Try.ntmps21
      go_wp2_with fail
      go_ret
      exact ⟨rfl, HB.out⟩
  · have hb4 : (k == 4) = false := beq_eq_false_iff_ne.2 h4
    have HB2 : Hid (∀ ob, Below w.heap.size w ((w.alloc (.cells #[.int .i64 k, .int .i64 n, .string s] 50)).alloc ob)) := Lib.hid (fun ob => HB.out.alloc HB.out.size _)
    by_cases h0 : k < 0
    · have hd : decide (k < 0) = true := decide_eq_true h0
      rw [pm_out (.inl h0)]
      clear h4 h0
      go_enter Try.func21, Try.ntmps21
      go_wp2_with fail
      go_ret
      exact ⟨rfl, HB2.out _⟩
    · have hd : decide (k < 0) = false := decide_eq_false h0
      by_cases h8 : 8 < k
      · have hd2 : decide (8 < k) = true := decide_eq_true h8
        rw [pm_out (.inr h8)]
        clear h4 h0 h8
        go_enter Try.func21, Try.ntmps21
        go_wp2_with fail
        go_ret
        exact ⟨rfl, HB2.out _⟩
      · have hd2 : decide (8 < k) = false := decide_eq_false h8
        by_cases hs : s.size = 0
        · obtain rfl := empty_of hs
          obtain ⟨j, rfl⟩ : ∃ j : Nat, k = (j : Int) := ⟨k.toNat, by omega⟩
          have hj : j ≤ 8 := by omega
          have HC : Hid ((((w.alloc (.cells #[.int .i64 (j : Int), .int .i64 n, .string ⟨#[]⟩] 50)).alloc (.cells #[.int .i64 0, .int .i64 1, .int .i64 0, .int .i64 127, .int .i64 0, .int .i64 255, .int .i64 0, .int .i64 0, .int .i64 16384] 3))).cell? ⟨w.heap.size + 1, j, none⟩ = some (.int .i64 (mostR j))) := Lib.hid (by
            have := World.cell?_alloc_new (w.alloc (.cells #[.int .i64 (j : Int), .int .i64 n, .string ⟨#[]⟩] 50)) #[.int .i64 0, .int .i64 1, .int .i64 0, .int .i64 127, .int .i64 0, .int .i64 255, .int .i64 0, .int .i64 0, .int .i64 16384] 3 j
            have h2 := (show (w.alloc (.cells #[.int .i64 (j : Int), .int .i64 n, .string ⟨#[]⟩] 50)).heap.size = w.heap.size + 1 by simp)
            rw [h2] at this
            rw [this]
            rcases (show j = 0 ∨ j = 1 ∨ j = 2 ∨ j = 3 ∨ j = 4 ∨ j = 5 ∨ j = 6 ∨ j = 7 ∨ j = 8 by omega) with rfl | rfl | rfl | rfl | rfl | rfl | rfl | rfl | rfl <;> rfl)
          by_cases h2 : j = 2
          · subst h2
            rw [show pm ⟨((2 : Nat) : Int), n, ⟨#[]⟩⟩ = true by
              rw [pm_num (by omega)]
              simp [numM]
              exact hI]
            clear h4 h0 h8 hs HC
            have hbb : (((2 : Nat) : Int) == 2) = true := rfl
            go_enter Try.func21, Try.ntmps21
            go_upto_region 6 with fail
            have HW2 : Hid (((w.alloc (.cells #[.int .i64 ((2 : Nat) : Int), .int .i64 n, .string ⟨#[]⟩] 50)).alloc (.cells #[.int .i64 0, .int .i64 1, .int .i64 0, .int .i64 127, .int .i64 0, .int .i64 255, .int .i64 0, .int .i64 0, .int .i64 16384] 3)).heap[w.heap.size]? = some (.cells #[.int .i64 ((2 : Nat) : Int), .int .i64 n, .string ⟨#[]⟩] 50 (0, 0))) := Lib.hid ((Below.heap_alloc _ _ _ (by simp)).trans (heap_alloc_new w _))
            have HB3 := Lib.hid (HB2.out (.cells #[.int .i64 0, .int .i64 1, .int .i64 0, .int .i64 127, .int .i64 0, .int .i64 255, .int .i64 0, .int .i64 0, .int .i64 16384] 3))
            generalize ((w.alloc (.cells #[.int .i64 ((2 : Nat) : Int), .int .i64 n, .string ⟨#[]⟩] 50)).alloc (.cells #[.int .i64 0, .int .i64 1, .int .i64 0, .int .i64 127, .int .i64 0, .int .i64 255, .int .i64 0, .int .i64 0, .int .i64 16384] 3)) = W at *
            have c0 := cell_of_row _ _ 0 _ _ _ HW2.out
            have c1 := cell_of_row _ _ 1 _ _ _ HW2.out
            simp at c0 c1
            go_quiet (fail)
            go_wp2_with fail
            go_ret
            exact ⟨rfl, by first | exact HB3.out | exact below_drewN' HB3.out _⟩
          · rw [pm_at hj (by omega) h2]
            have hb2 : ((j : Int) == 2) = false := by rw [beq_eq_false_iff_ne]; omega
            have hb8 : ((j : Int) != 8) = decide (j ≠ 8) := by
              by_cases h : j = 8
              · subst h; rfl
              · simp only [ne_eq, h, not_false_eq_true, decide_true, bne_iff_ne]; omega
            have hc := HC.out
            have HJ : Hid (j ≤ 8) := Lib.hid hj
            clear h4 h0 h8 hs HC h2
            generalize mostR j = M at *
            obtain ⟨a, ha⟩ : ∃ a, decide (0 ≤ n) = a := ⟨_, rfl⟩
            obtain ⟨b, hb⟩ : ∃ b, decide (n ≤ M) = b := ⟨_, rfl⟩
            obtain ⟨c, hcc⟩ : ∃ c, decide (j ≠ 8) = c := ⟨_, rfl⟩
            obtain ⟨d, hdd⟩ : ∃ d, decide (0 < n) = d := ⟨_, rfl⟩
            rw [ha, hb, hcc, hdd]
            rw [hcc] at hb8
            cases a with
            | false =>
              go_enter Try.func21, Try.ntmps21
              go_upto_region 6 with fail
              have HW2 : Hid (((w.alloc (.cells #[.int .i64 (j : Int), .int .i64 n, .string ⟨#[]⟩] 50)).alloc (.cells #[.int .i64 0, .int .i64 1, .int .i64 0, .int .i64 127, .int .i64 0, .int .i64 255, .int .i64 0, .int .i64 0, .int .i64 16384] 3)).heap[w.heap.size]? = some (.cells #[.int .i64 (j : Int), .int .i64 n, .string ⟨#[]⟩] 50 (0, 0))) := Lib.hid ((Below.heap_alloc _ _ _ (by simp)).trans (heap_alloc_new w _))
              have HB3 := Lib.hid (HB2.out (.cells #[.int .i64 0, .int .i64 1, .int .i64 0, .int .i64 127, .int .i64 0, .int .i64 255, .int .i64 0, .int .i64 0, .int .i64 16384] 3))
              generalize ((w.alloc (.cells #[.int .i64 (j : Int), .int .i64 n, .string ⟨#[]⟩] 50)).alloc (.cells #[.int .i64 0, .int .i64 1, .int .i64 0, .int .i64 127, .int .i64 0, .int .i64 255, .int .i64 0, .int .i64 0, .int .i64 16384] 3)) = W at *
              have c0 := cell_of_row _ _ 0 _ _ _ HW2.out
              have c1 := cell_of_row _ _ 1 _ _ _ HW2.out
              simp at c0 c1
              go_quiet (fail)
              go_wp2_with fail
              go_ret
              exact ⟨rfl, by first | exact HB3.out | exact below_drewN' HB3.out _⟩
            | true =>
              cases b with
              | false =>
                go_enter Try.func21, Try.ntmps21
                go_upto_region 6 with fail
                have HW2 : Hid (((w.alloc (.cells #[.int .i64 (j : Int), .int .i64 n, .string ⟨#[]⟩] 50)).alloc (.cells #[.int .i64 0, .int .i64 1, .int .i64 0, .int .i64 127, .int .i64 0, .int .i64 255, .int .i64 0, .int .i64 0, .int .i64 16384] 3)).heap[w.heap.size]? = some (.cells #[.int .i64 (j : Int), .int .i64 n, .string ⟨#[]⟩] 50 (0, 0))) := Lib.hid ((Below.heap_alloc _ _ _ (by simp)).trans (heap_alloc_new w _))
                have HB3 := Lib.hid (HB2.out (.cells #[.int .i64 0, .int .i64 1, .int .i64 0, .int .i64 127, .int .i64 0, .int .i64 255, .int .i64 0, .int .i64 0, .int .i64 16384] 3))
                generalize ((w.alloc (.cells #[.int .i64 (j : Int), .int .i64 n, .string ⟨#[]⟩] 50)).alloc (.cells #[.int .i64 0, .int .i64 1, .int .i64 0, .int .i64 127, .int .i64 0, .int .i64 255, .int .i64 0, .int .i64 0, .int .i64 16384] 3)) = W at *
                have c0 := cell_of_row _ _ 0 _ _ _ HW2.out
                have c1 := cell_of_row _ _ 1 _ _ _ HW2.out
                simp at c0 c1
                go_quiet (fail)
                go_wp2_with fail
                go_ret
                exact ⟨rfl, by first | exact HB3.out | exact below_drewN' HB3.out _⟩
              | true =>
                cases c with
                | false =>
                  go_enter Try.func21, Try.ntmps21
                  go_upto_region 6 with fail
                  have HW2 : Hid (((w.alloc (.cells #[.int .i64 (j : Int), .int .i64 n, .string ⟨#[]⟩] 50)).alloc (.cells #[.int .i64 0, .int .i64 1, .int .i64 0, .int .i64 127, .int .i64 0, .int .i64 255, .int .i64 0, .int .i64 0, .int .i64 16384] 3)).heap[w.heap.size]? = some (.cells #[.int .i64 (j : Int), .int .i64 n, .string ⟨#[]⟩] 50 (0, 0))) := Lib.hid ((Below.heap_alloc _ _ _ (by simp)).trans (heap_alloc_new w _))
                  have HB3 := Lib.hid (HB2.out (.cells #[.int .i64 0, .int .i64 1, .int .i64 0, .int .i64 127, .int .i64 0, .int .i64 255, .int .i64 0, .int .i64 0, .int .i64 16384] 3))
                  generalize ((w.alloc (.cells #[.int .i64 (j : Int), .int .i64 n, .string ⟨#[]⟩] 50)).alloc (.cells #[.int .i64 0, .int .i64 1, .int .i64 0, .int .i64 127, .int .i64 0, .int .i64 255, .int .i64 0, .int .i64 0, .int .i64 16384] 3)) = W at *
                  have c0 := cell_of_row _ _ 0 _ _ _ HW2.out
                  have c1 := cell_of_row _ _ 1 _ _ _ HW2.out
                  simp at c0 c1
                  go_quiet (fail)
                  go_wp2_with fail
                  go_ret
                  exact ⟨rfl, by first | exact HB3.out | exact below_drewN' HB3.out _⟩
                | true =>
                  go_enter Try.func21, Try.ntmps21
                  go_upto_region 6 with fail
                  have HW2 : Hid (((w.alloc (.cells #[.int .i64 (j : Int), .int .i64 n, .string ⟨#[]⟩] 50)).alloc (.cells #[.int .i64 0, .int .i64 1, .int .i64 0, .int .i64 127, .int .i64 0, .int .i64 255, .int .i64 0, .int .i64 0, .int .i64 16384] 3)).heap[w.heap.size]? = some (.cells #[.int .i64 (j : Int), .int .i64 n, .string ⟨#[]⟩] 50 (0, 0))) := Lib.hid ((Below.heap_alloc _ _ _ (by simp)).trans (heap_alloc_new w _))
                  have HB3 := Lib.hid (HB2.out (.cells #[.int .i64 0, .int .i64 1, .int .i64 0, .int .i64 127, .int .i64 0, .int .i64 255, .int .i64 0, .int .i64 0, .int .i64 16384] 3))
                  generalize ((w.alloc (.cells #[.int .i64 (j : Int), .int .i64 n, .string ⟨#[]⟩] 50)).alloc (.cells #[.int .i64 0, .int .i64 1, .int .i64 0, .int .i64 127, .int .i64 0, .int .i64 255, .int .i64 0, .int .i64 0, .int .i64 16384] 3)) = W at *
                  have c0 := cell_of_row _ _ 0 _ _ _ HW2.out
                  have c1 := cell_of_row _ _ 1 _ _ _ HW2.out
                  simp at c0 c1
                  go_quiet (fail)
                  go_wp2_with fail
                  go_ret
                  exact ⟨rfl, by first | exact HB3.out | exact below_drewN' HB3.out _⟩
        · have he : s.toList.isEmpty = false := isEmpty_false (by omega)
          rw [pm_str h4 hs]
          clear h4 h0 h8 hs
          go_enter Try.func21, Try.ntmps21
          go_wp2_with fail
          go_ret
          exact ⟨rfl, HB2.out _⟩
end Go.Proofs.Ytpdihgmgcamgkaa
