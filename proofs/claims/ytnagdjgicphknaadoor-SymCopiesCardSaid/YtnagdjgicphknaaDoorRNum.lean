/- A number's digits, by the document; a name's place. -/
import Derived.Test.YtnagdjgicphknaaDoorDig
set_option linter.unusedSimpArgs false
set_option maxRecDepth 20000
namespace Go.Proofs.YtnagdjgicphknaaDoor
open Go.RowKit

theorem one_of (x : Int) (d : Nat) (hx : x = (d : Int)) (hd : d < 256) (w : World) : (convert 55 9 (.slice (some ⟨w.heap.size, 0, none⟩) 1 1)).run Tryd.prog (w.alloc (.cells #[.int .u8 x] 5)) = .ok (.string (strB [d])) (w.alloc (.cells #[.int .u8 x] 5)) := by
  subst hx
  have hb : Bys (w.alloc (.cells #[.int .u8 (d : Int)] 5)) (some ⟨w.heap.size, 0, none⟩) 1 [d] := ⟨rfl, by simpa using hd, fun _ => ⟨w.heap.size, 0, rfl, fun i hi => by
    obtain rfl : i = 0 := by omega
    exact World.cell?_alloc_new w #[.int .u8 (d : Int)] 5 0⟩⟩
  exact hb.conv 1
theorem nums_append (A B : ByteArray) : nums (A ++ B) = nums A ++ nums B := by
  unfold nums
  rw [ByteArray.data_append, Array.toList_append, List.map_append]
theorem append_none (A : ByteArray) : A ++ ⟨#[]⟩ = A := nums_inj (by rw [nums_append]; simp [nums])
theorem strB_append {xs ys : List Nat} (hx : ∀ x ∈ xs, x < 256) (hy : ∀ x ∈ ys, x < 256) : strB xs ++ strB ys = strB (xs ++ ys) :=
  nums_inj (by rw [nums_append, nums_strB hx, nums_strB hy, nums_strB (dig_append hx hy)])
theorem rnumber_any (n : Nat) (hn : n < 1000) (w : World) : Calls Tryd.prog 29 #[.int .i64 (n : Int)] w fun e w' => e = .returned (.string (strB (digs n))) ∧ Below w.heap.size w w' := by
  go_enter Tryd.func29, Tryd.ntmps29
  go_wp2_with fail
  go_loopw [0, 3] (fun nv sv wr => (∃ (m : Nat) (r : List Nat), nv = .int .i64 (m : Int) ∧ sv = .string (strB r) ∧ m ≤ n ∧ Hid (digs n = digs m ++ r) ∧ Hid (∀ x ∈ r, x < 256)) ∧ Hid (Below w.heap.size w wr)) (fun nv _ _ => (intOf nv).toNat)
  case atStart => exact ⟨⟨n, [], rfl, rfl, Nat.le_refl _, Lib.hid (by simp), Lib.hid (by simp)⟩, Lib.hid (Below.refl _ _)⟩
  case round =>
    obtain ⟨⟨m, r, rfl, rfl, hm, HD, HX⟩, HB⟩ := hrel
    have hrl : (strB r).size ≤ 3 := by
      rw [strB_size]
      have h1 := congrArg List.length HD.out
      rw [List.length_append] at h1
      have := (digs_len n).2
      omega
    obtain ⟨R, HR⟩ : ∃ R, Hid (strB r = R) := ⟨_, Lib.hid rfl⟩
    rw [HR.out] at hrl ⊢
    by_cases h1 : m < 10
    · have hd : decide ((10 : Int) ≤ (m : Int)) = false := by simp; omega
      have hone := one_of (48 + (m : Int)) (48 + m) (by omega) (by omega)
      have hz : (strB [48 + m]).size = 1 := strB_size _
      go_wp2_with fail
      go_ret
      refine ⟨?_, HB.out.alloc HB.out.size _⟩
      rw [← HR.out, strB_append (by simp; omega) HX.out, show digs n = [48 + m] ++ r by rw [HD.out]; unfold digs; rw [if_pos h1]]
      rfl
    · have hd : decide ((10 : Int) ≤ (m : Int)) = true := by simp; omega
      have hone := one_of (48 + (m : Int) % 10) (48 + m % 10) (by omega) (by omega)
      have hz : (strB [48 + m % 10]).size = 1 := strB_size _
      go_wp2_with fail
      case roundEnd =>
        refine ⟨⟨⟨m / 10, [48 + m % 10] ++ r, rfl, ?_, by omega, Lib.hid (by rw [HD.out, digs_step (by omega) (by omega), List.append_assoc]), Lib.hid (fun x hx => ?_)⟩, Lib.hid (HB.out.alloc HB.out.size _)⟩, ?_⟩
        · rw [← HR.out, strB_append (by simp; omega) HX.out]
        · rcases List.mem_append.1 hx with h | h
          · simp at h; omega
          · exact HX.out x h
        · simp [intOf]; omega
theorem beq_toList (A B : ByteArray) : (A.toList == B.toList) = decide (A = B) := by
  rw [ByteArray.toList_eq, ByteArray.toList_eq]
  by_cases h : A = B
  · rw [decide_eq_true h, h]; simp
  · rw [decide_eq_false h]
    refine beq_eq_false_iff_ne.2 (fun e => h ?_)
    cases A; cases B
    have e2 := Array.ext' e
    simp only at e2
    rw [e2]
theorem atI_first : ∀ (L : List ByteArray) (S : ByteArray) (k : Nat), (∀ j, j < k → L[j]? ≠ some S) → L[k]? = some S → atI L S = (k : Int) := by
  intro L S k h1 h2
  have hm : S ∈ L := List.mem_of_getElem? h2
  unfold atI
  rw [if_pos hm]
  have h3 := atN_get hm
  have h4 : atN L S ≤ k := by
    clear h1 h3 hm
    induction L generalizing k with
    | nil => simp at h2
    | cons x r ih =>
      unfold atN
      by_cases e : x = S
      · rw [if_pos e]; omega
      · rw [if_neg e]
        cases k with
        | zero => simp at h2; exact absurd h2 e
        | succ k => simp only [List.getElem?_cons_succ] at h2; have := ih k h2; omega
  rcases Nat.lt_or_ge (atN L S) k with h5 | h5
  · exact absurd h3 (h1 _ h5)
  · omega
theorem rat_any {w : World} {v : Value} {L : List ByteArray} (h : Rf w v L) (hl : L.length ≤ 1000) (S : ByteArray) : Calls Tryd.prog 18 #[v, .string S] w fun e w' => e = .returned (.int .i64 (atI L S)) ∧ w = w' := by
  have HP := Lib.hid h
  obtain ⟨q, c, rfl⟩ := h.form
  clear h
  obtain ⟨N, HN⟩ : ∃ N, Hid (L.length = N) := ⟨_, Lib.hid rfl⟩
  rw [HN.out] at hl ⊢
  have HX := Lib.hid (fun (k : Nat) (h1 : k < L.length) (h2 : ∀ j, j < k → L[j]? ≠ some S) => atI_first L S k h2)
  have HY : Hid ((∀ j, j < L.length → L[j]? ≠ some S) → atI L S = -1) := Lib.hid (fun h => by
    unfold atI
    rw [if_neg (fun hm => h _ (atN_lt hm) (atN_get hm))])
  go_enter Tryd.func18, Tryd.ntmps18
  go_wp2_with fail
  go_loop [5] (fun iv => ∃ i : Nat, i ≤ N ∧ iv = .int .i64 (i : Int) ∧ Hid (∀ j, j < i → L[j]? ≠ some S)) (fun iv => N - (intOf iv).toNat)
  case atStart => exact ⟨0, by omega, by go_num, Lib.hid (fun j hj => absurd hj (Nat.not_lt_zero j))⟩
  case round =>
    obtain ⟨i, hi, rfl, HJ⟩ := hrel
    by_cases hlt : i < N
    · obtain ⟨T, hT⟩ : ∃ T, L[i]? = some T := ⟨_, List.getElem?_eq_getElem (by rw [HN.out]; exact hlt)⟩
      obtain ⟨b, c', e, hc, x1⟩ := HP.out.at hT
      rw [HN.out] at e hc
      cases e
      have HTT := Lib.hid hT
      have hiN : (i : Int) < (N : Int) := by omega
      clear hT
      by_cases he : T = S
      · have hb : (T.toList == S.toList) = true := by rw [beq_toList, decide_eq_true he]
        have HE := Lib.hid he
        clear he
        go_wp2_with fail
        go_ret
        rw [HX.out i (by rw [HN.out]; exact hlt) HJ.out (by rw [HTT.out, HE.out])]
        exact ⟨rfl, rfl⟩
      · have hb : (T.toList == S.toList) = false := by rw [beq_toList, decide_eq_false he]
        have HE := Lib.hid he
        clear he
        go_wp2_with fail
        go_round
        case rel => exact ⟨i + 1, by omega, by go_num, Lib.hid (fun j hj => (Nat.lt_succ_iff_lt_or_eq.1 hj).elim (HJ.out j) (fun e => by rw [e, HTT.out]; intro e2; cases e2; exact HE.out rfl))⟩
        case measure => simp [intOf]; omega
    · obtain rfl : i = N := by omega
      go_wp2_with fail
      go_ret
      rw [HY.out (by rw [HN.out]; exact HJ.out)]
      exact ⟨rfl, rfl⟩
end Go.Proofs.YtnagdjgicphknaaDoor
