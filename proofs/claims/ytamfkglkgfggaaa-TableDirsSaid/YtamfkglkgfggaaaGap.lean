/- The least page from some on of which nothing is told; a copy. -/
import Derived.Test.YtamfkglkgfggaaaGet
set_option linter.unusedSimpArgs false
namespace Go.Proofs.Ytamfkglkgfggaaa
open Go.RowKit

theorem free_int (f : Nat → Nat) (i : Nat) : (((f i : Nat) : Int) == 0) = free f i := by
  unfold free
  rcases f i with _ | n
  · rfl
  · rfl
/-- The least page from some on of which nothing is told. -/
def gapI (f : Nat → Nat) (x : Int) : Int := num (nxt (free f) 512 x.toNat)
set_option maxHeartbeats 800000 in
theorem gap_tab {w : World} {g : Nat} {f : Nat → Nat} (h : Tab w g f) (x : Int) (hx : x ≤ 9223372036854775807) : Calls Try.prog 54 #[.pointer (some ⟨g, 0, none⟩), .int .i64 x] w fun e w' => e = .returned (.int .i64 (gapI f x)) ∧ w = w' := by
  have H := Lib.hid h
  have HX := Lib.hid hx
  clear h hx
  have HM : Hid (max x 0 = (x.toNat : Int)) := Lib.hid (by omega)
  unfold gapI
  have HS9 : Hid (x.toNat ≤ 9223372036854775807) := Lib.hid (by have := HX.out; omega)
  clear HX
  obtain ⟨s, hs⟩ : ∃ s, x.toNat = s := ⟨_, rfl⟩
  rw [hs] at HM HS9 ⊢
  clear hs
  generalize hR : num (nxt (free f) 512 s) = R
  have HR := Lib.hid hR
  clear hR
  go_enter Try.func54, Try.ntmps54
  go_upto_region 1 with fail
  go_cut [1] (fun v wx => v = .int .i64 (s : Int) ∧ wx = w)
  case first =>
    go_wp2_with fail
    all_goals go_meet
    all_goals exact ⟨congrArg (Value.int .i64) (by have := HM.out; omega), rfl⟩
  case rest =>
    obtain ⟨rfl, rfl⟩ := hcut
    clear HM
    go_wp2_with fail
    go_loop [1] (fun iv => ∃ k : Nat, s ≤ k ∧ k ≤ 9223372036854775807 ∧ iv = .int .i64 (k : Int) ∧ ∀ y, s ≤ y → y < k → free f y = false) (fun iv => 512 - (intOf iv).toNat)
    case atStart => exact ⟨s, Nat.le_refl _, HS9.out, by go_num, fun y h1 h2 => by omega⟩
    case round =>
      obtain ⟨k, h1, h2, rfl, h3⟩ := hrel
      have H3 := Lib.hid h3
      have H1 := Lib.hid h1
      have H2 := Lib.hid h2
      clear h1 h2 h3
      by_cases hlt : k < 512
      · have HT : Hid (∀ w, Calls Try.prog 56 #[.pointer (some ⟨g, 0, none⟩), .int .i64 (k : Int)] w fun e w' => e = .returned (.bool true) ∧ w = w') := Lib.hid fun w => by
          have := reach_tab g (k : Int) w
          rwa [decide_eq_true (show (0 : Int) ≤ (k : Int) by omega), decide_eq_true (show (k : Int) < 512 by omega)] at this
        have HG := Lib.hid (get_in H.out k hlt)
        have HL := Lib.hid hlt
        have hz : (k : Int) ≤ 512 := by omega
        clear hlt
        cases hf : free f k with
        | true =>
          have e : told f k = false := by unfold told; unfold free at hf; rw [hf]; rfl
          rw [e] at HG
          have HE : Hid (R = (k : Int)) := Lib.hid (by
            rw [← HR.out, nxt_some H1.out HL.out hf (fun y a b => H3.out y a b)]; rfl)
          clear e hf
          go_wp2_with (first | (go_at_call 56; refine (HT.out _).mono ?_; rintro e w7 ⟨rfl, rfl⟩) | (go_at_call 30; refine (HG.out).mono ?_; rintro e w7 ⟨rfl, rfl⟩))
          go_ret
          exact ⟨by rw [HE.out]; rfl, rfl⟩
        | false =>
          have e : told f k = true := by unfold told; unfold free at hf; rw [hf]; rfl
          rw [e] at HG
          have HN : Hid (∀ y, s ≤ y → y < k + 1 → free f y = false) := Lib.hid fun y a b => by
            by_cases hy : y = k
            · rw [hy]; exact hf
            · exact H3.out y a (by omega)
          clear e hf
          go_wp2_with (first | (go_at_call 56; refine (HT.out _).mono ?_; rintro e w7 ⟨rfl, rfl⟩) | (go_at_call 30; refine (HG.out).mono ?_; rintro e w7 ⟨rfl, rfl⟩))
          go_round
          case rel => exact ⟨k + 1, by have := H1.out; omega, by have := HL.out; omega, by go_num, HN.out⟩
          case measure => have := HL.out; simp [intOf]; omega
      · have HT : Hid (∀ w, Calls Try.prog 56 #[.pointer (some ⟨g, 0, none⟩), .int .i64 (k : Int)] w fun e w' => e = .returned (.bool false) ∧ w = w') := Lib.hid fun w => by
          have := reach_tab g (k : Int) w
          rwa [decide_eq_false (show ¬ (k : Int) < 512 by omega), Bool.and_false] at this
        have HE : Hid (R = -1) := Lib.hid (by
          rw [← HR.out, nxt_none (fun y a b => H3.out y a (by omega))]; rfl)
        clear hlt
        go_wp2_with (first | (go_at_call 56; refine (HT.out _).mono ?_; rintro e w7 ⟨rfl, rfl⟩))
        go_ret
        exact ⟨by rw [HE.out]; rfl, rfl⟩

set_option maxHeartbeats 800000 in
theorem rgap_any (f : Nat → Nat) (x : Int) (w : World) (hx : x ≤ 9223372036854775807) : Calls Try.prog 55 #[.agg (rowA f 512), .int .i64 x] w fun e w' => e = .returned (.int .i64 (gapI f x)) ∧ Below w.heap.size w w' := by
  have HI : Hid (IsT (w.alloc (.cells (rowA f 512) 25)) w.heap.size 25 f 512) := Lib.hid (heap_alloc_new w _)
  have HB : Hid (Below w.heap.size w (w.alloc (.cells (rowA f 512) 25))) := Lib.hid ((Below.refl _ _).alloc (Nat.le_refl _) _)
  unfold gapI
  have HS9 : Hid (x.toNat ≤ 9223372036854775807) := Lib.hid (by omega)
  have HM : Hid ((decide (x < 0) = true → x.toNat = 0) ∧ (decide (x < 0) = false → x = (x.toNat : Int))) := Lib.hid ⟨fun h => by have := of_decide_eq_true h; omega, fun h => by have := of_decide_eq_false h; omega⟩
  clear hx
  obtain ⟨s, hs⟩ : ∃ s, x.toNat = s := ⟨_, rfl⟩
  rw [hs] at HM HS9 ⊢
  clear hs
  generalize hR : num (nxt (free f) 512 s) = R
  have HR := Lib.hid hR
  clear hR
  generalize rowA f 512 = Z at *
  generalize hW : w.alloc (.cells Z 25) = W at *
  have HW := Lib.hid hW
  clear hW
  go_enter Try.func55, Try.ntmps55
  go_upto_if 6 with fail
  rw [HW.out]
  go_cut [1] (fun v wx => v = .int .i64 (s : Int) ∧ wx = W)
  case first =>
    by_cases h0 : x < 0
    · have hd : decide (x < 0) = true := decide_eq_true h0
      go_wp2_with fail
      go_meet
      exact ⟨by rw [HM.out.1 hd]; rfl, rfl⟩
    · have hd : decide (x < 0) = false := decide_eq_false h0
      go_wp2_with fail
      go_meet
      exact ⟨by rw [← HM.out.2 hd], rfl⟩
  case rest =>
    obtain ⟨rfl, rfl⟩ := hcut
    clear HM
    go_wp2_with fail
    go_loop [1] (fun iv => ∃ k : Nat, s ≤ k ∧ k ≤ 9223372036854775807 ∧ iv = .int .i64 (k : Int) ∧ ∀ y, s ≤ y → y < k → free f y = false) (fun iv => 512 - (intOf iv).toNat)
    case atStart => exact ⟨s, Nat.le_refl _, HS9.out, by go_num, fun y h1 h2 => by omega⟩
    case round =>
      obtain ⟨k, h1, h2, rfl, h3⟩ := hrel
      have H3 := Lib.hid h3
      have H1 := Lib.hid h1
      have H2 := Lib.hid h2
      clear h1 h2 h3
      by_cases hlt : k < 512
      · have hd : decide ((k : Int) < 512) = true := decide_eq_true (by omega)
        have hc := HI.out.cell k hlt
        have hz : (k : Int) ≤ 512 := by omega
        have hkk : (0 : Int) ≤ (k : Int) := by omega
        have HL := Lib.hid hlt
        have he := free_int f k
        cases hf : free f k with
        | true =>
          rw [hf] at he
          have HE : Hid (R = (k : Int)) := Lib.hid (by
            rw [← HR.out, nxt_some H1.out HL.out hf (fun y a b => H3.out y a b)]; rfl)
          clear hf
          generalize f k = u at *
          go_wp2_with fail
          go_ret
          exact ⟨by rw [HE.out]; rfl, HB.out⟩
        | false =>
          rw [hf] at he
          have HN : Hid (∀ y, s ≤ y → y < k + 1 → free f y = false) := Lib.hid fun y a b => by
            by_cases hy : y = k
            · rw [hy]; exact hf
            · exact H3.out y a (by omega)
          clear hf
          generalize f k = u at *
          go_wp2_with fail
          go_round
          case rel => exact ⟨k + 1, by have := H1.out; omega, by have := HL.out; omega, by go_num, HN.out⟩
          case measure => have := HL.out; simp [intOf]; omega
      · have hd : decide ((k : Int) < 512) = false := decide_eq_false (by omega)
        have HE : Hid (R = -1) := Lib.hid (by
          rw [← HR.out, nxt_none (fun y a b => H3.out y a (by omega))]; rfl)
        clear hlt
        go_wp2_with fail
        go_ret
        exact ⟨by rw [HE.out]; rfl, HB.out⟩
end Go.Proofs.Ytamfkglkgfggaaa
