/- The document's small functions: Has, Value, Live, Same. -/
import Derived.Test.YtekmboolfjicbaaRMem
set_option maxRecDepth 20000
set_option linter.unusedSimpArgs false
namespace Go.Proofs.Ytekmboolfjicbaa
open Go.RowKit

section
variable {w w' : World} {F F' : Nat → Prop} {vl : Value} {W : Nat → Value × Value} {L : Pls}
theorem b2 (w : World) (a b : Obj) : Below w.heap.size w ((w.alloc a).alloc b) := ((Below.refl _ _).alloc (Nat.le_refl _) _).alloc (by simp) _
set_option maxHeartbeats 1600000 in
theorem RHp.has (h : RHp w F vl W L) (_hl : L.length ≤ 16384) (lim K N : Int) : Calls Try.prog 43 #[.agg #[vl, .int .i64 lim], .agg #[.int .i64 K, .int .i64 N]] w fun e w' => e = .returned (.bool (hasP L (K, N))) ∧ Below w.heap.size w w' := by
  by_cases hK : K = 8
  · subst hK
    have d0 : ((8 : Int) == 8) = true := by decide
    by_cases hN : N < 0
    · have hd : decide (0 ≤ N) = false := by simp; omega
      have HV : Hid (hasP L (8, N) = false) := Lib.hid (by rw [Bool.eq_false_iff]; intro h; obtain ⟨_, h2, _⟩ := hasP_iff.1 h; have : (0 : Int) ≤ N := h2; omega)
      rw [HV.out]
      obtain ⟨q, c, rfl⟩ := h.form
      clear h
      go_enter Try.func43, Try.ntmps43
      go_wp2_with fail
      go_ret
      exact ⟨rfl, b2 _ _ _⟩
    · obtain ⟨k, rfl⟩ : ∃ k : Nat, N = (k : Int) := ⟨N.toNat, by omega⟩
      have hd : decide ((0 : Int) ≤ (k : Int)) = true := by simp
      by_cases hk : k < L.length
      · obtain ⟨b, c, rfl, hc, a0, -⟩ := h.cells hk
        have HV : Hid (hasP L (8, (k : Int)) = (clAt L k).isSome) := Lib.hid (by unfold hasP; simp)
        rw [HV.out]
        have hki : (k : Int) < (L.length : Int) := by omega
        have hd2 : decide ((k : Int) < (L.length : Int)) = true := decide_eq_true hki
        obtain ⟨n, HN2⟩ : ∃ n, Hid (L.length = n) := ⟨_, Lib.hid rfl⟩
        rw [HN2.out] at hki hd2 hc ⊢
        have ab := World.block_lt_of_cell? w _ a0
        clear h hk HV
        generalize (clAt L k).isSome = bb at *
        go_enter Try.func43, Try.ntmps43
        go_wp2_with fail
        go_ret
        exact ⟨rfl, b2 _ _ _⟩
      · have HV : Hid (hasP L (8, (k : Int)) = false) := Lib.hid (by unfold hasP; rw [Int.toNat_natCast, clAt_ge (by omega)]; simp)
        rw [HV.out]
        have hd2 : decide ((k : Int) < (L.length : Int)) = false := by simp; omega
        have hd3 : decide (k < L.length) = false := by simp; omega
        obtain ⟨q, c, rfl⟩ := h.form
        obtain ⟨n, HN2⟩ : ∃ n, Hid (L.length = n) := ⟨_, Lib.hid rfl⟩
        rw [HN2.out] at hd2 hd3 ⊢
        clear h hk HV
        go_enter Try.func43, Try.ntmps43
        go_wp2_with fail
        go_ret
        exact ⟨rfl, b2 _ _ _⟩
  · have hd : (K == 8) = false := by simp [hK]
    have HV : Hid (hasP L (K, N) = false) := Lib.hid (by rw [Bool.eq_false_iff]; intro h; exact hK (hasP_iff.1 h).1)
    rw [HV.out]
    obtain ⟨q, c, rfl⟩ := h.form
    clear h HV
    go_enter Try.func43, Try.ntmps43
    go_wp2_with fail
    go_ret
    exact ⟨rfl, b2 _ _ _⟩
set_option maxHeartbeats 1600000 in
theorem RHp.value (h : RHp w F vl W L) (hl : L.length ≤ 16384) (lim K N : Int) : Calls Try.prog 44 #[.agg #[vl, .int .i64 lim], .agg #[.int .i64 K, .int .i64 N]] w fun e w' => e = .returned (.bool (mayV L (K, N))) ∧ Below w.heap.size w w' := by
  by_cases hK : K = 8
  · subst hK
    have HH : Hid (∀ w1, Below w.heap.size w w1 → Calls Try.prog 43 #[.agg #[vl, .int .i64 lim], .agg #[.int .i64 8, .int .i64 N]] w1 fun e w' => e = .returned (.bool (hasP L (8, N))) ∧ Below w1.heap.size w1 w') := Lib.hid fun _ hb => (h.below hb).has hl lim 8 N
    have HV : Hid (mayV L (8, N) = hasP L (8, N)) := Lib.hid (if_pos rfl)
    rw [HV.out]
    obtain ⟨q, c, rfl⟩ := h.form
    generalize hasP L (8, N) = bb at *
    clear h HV
    go_enter Try.func44, Try.ntmps44
    go_wp2_with (go_at_call 43; with_reducible refine (HH.out _ (b2 _ _ _)).mono ?_; rintro e w1 ⟨rfl, hb⟩)
    go_ret
    exact ⟨rfl, (b2 w _ _).trans (hb.mono (by simp; omega))⟩
  · have hd : (K != 8) = true := by simp [hK]
    have HV : Hid (mayV L (K, N) = decide (0 ≤ K ∧ K < 9)) := Lib.hid (if_neg hK)
    rw [HV.out]
    obtain ⟨q, c, rfl⟩ := h.form
    clear h HV
    by_cases h2 : 0 ≤ K
    · have hd1 : decide (0 ≤ K) = true := decide_eq_true h2
      by_cases h3 : K < 9
      · have hd2 : decide (K < 9) = true := decide_eq_true h3
        rw [show decide (0 ≤ K ∧ K < 9) = true by simp [h2, h3]]
        go_enter Try.func44, Try.ntmps44
        go_wp2_with fail
        go_ret
        exact ⟨rfl, b2 _ _ _⟩
      · have hd2 : decide (K < 9) = false := decide_eq_false h3
        rw [show decide (0 ≤ K ∧ K < 9) = false by simp [h3]]
        go_enter Try.func44, Try.ntmps44
        go_wp2_with fail
        go_ret
        exact ⟨rfl, b2 _ _ _⟩
    · have hd1 : decide (0 ≤ K) = false := decide_eq_false h2
      rw [show decide (0 ≤ K ∧ K < 9) = false by simp [h2]]
      go_enter Try.func44, Try.ntmps44
      go_wp2_with fail
      go_ret
      exact ⟨rfl, b2 _ _ _⟩
theorem liveN_take {L : Pls} {i : Nat} (h : i < L.length) : liveN (L.take (i + 1)) = liveN (L.take i) + (if (clAt L i).isSome then 1 else 0) := by
  rw [List.take_succ_eq_append_getElem h, clAt_get h]
  unfold liveN
  rw [List.countP_append]
  cases clAt L i <;> rfl
set_option maxHeartbeats 1600000 in
theorem RHp.live (h : RHp w F vl W L) (hl : L.length ≤ 16384) (lim : Int) : Calls Try.prog 38 #[.agg #[vl, .int .i64 lim]] w fun e w' => e = .returned (.int .i64 (liveN L : Int)) ∧ Below w.heap.size w w' := by
  have HP := Lib.hid h
  obtain ⟨q, c, rfl⟩ := h.form
  obtain ⟨n, HN⟩ : ∃ n, Hid (L.length = n) := ⟨_, Lib.hid rfl⟩
  have HB0 : Hid (Below w.heap.size w (w.alloc (.cells #[.slice q n c, .int .i64 lim] 29))) := Lib.hid ((Below.refl _ _).alloc (Nat.le_refl _) _)
  rw [HN.out] at hl HP ⊢
  clear h
  go_enter Try.func38, Try.ntmps38
  go_wp2_with fail
  have x0 : (w.alloc (.cells #[.slice q n c, .int .i64 lim] 29)).cell? ⟨w.heap.size, 0, none⟩ = some (.slice q n c) := by rw [cell_of_row _ _ 0 _ _ _ (heap_alloc_new w _)]; rfl
  generalize w.alloc (.cells #[.slice q n c, .int .i64 lim] 29) = W1 at *
  go_loopw [3, 4] (fun sv iv wr => ∃ i s : Nat, i ≤ n ∧ iv = .int .i64 (i : Int) ∧ sv = .int .i64 (s : Int) ∧ Hid (liveN (L.take i) = s) ∧ s ≤ i ∧ wr = W1) (fun _ iv _ => n - (intOf iv).toNat)
  case atStart => exact ⟨0, 0, by omega, by go_num, by go_num, Lib.hid rfl, by omega, rfl⟩
  case round =>
    obtain ⟨i, s, hi, rfl, rfl, HS, hsi, rfl⟩ := hrel
    by_cases hlt : i < n
    · obtain ⟨b, c', e, hcc, a0, -⟩ := HP.out.cells (i := i) (by rw [HN.out]; exact hlt)
      rw [HN.out] at e hcc
      cases e
      have y0 := (HB0.out.cell (World.block_lt_of_cell? w _ a0)).trans a0
      have hin : (i : Int) < (n : Int) := by omega
      have HT := Lib.hid (liveN_take (L := L) (i := i) (by rw [HN.out]; exact hlt))
      clear a0
      cases hs : (clAt L i).isSome with
      | true =>
        rw [hs] at y0 HT
        have HS2 : Hid (liveN (L.take (i + 1)) = s + 1) := Lib.hid (by rw [HT.out, HS.out]; rfl)
        clear HT hs
        go_wp2_with fail
        go_roundw
        case rel => exact ⟨i + 1, s + 1, by omega, by go_num, by go_num, HS2, by omega, trivial⟩
        case measure => simp [intOf]; omega
      | false =>
        rw [hs] at y0 HT
        have HS2 : Hid (liveN (L.take (i + 1)) = s) := Lib.hid (by rw [HT.out, HS.out]; rfl)
        clear HT hs
        go_wp2_with fail
        go_roundw
        case rel => exact ⟨i + 1, s, by omega, by go_num, by go_num, HS2, by omega, trivial⟩
        case measure => simp [intOf]; omega
    · obtain rfl : i = n := by omega
      have HE : Hid (liveN L = s) := Lib.hid (by rw [← HS.out, ← HN.out, List.take_length])
      go_wp2_with fail
      go_ret
      rw [HE.out]
      exact ⟨rfl, HB0.out⟩
end
end Go.Proofs.Ytekmboolfjicbaa
