/- Small texts: two digits, truths, a character's text, a number's. -/
import Derived.Test.YtjpbbooeihdnfaaDoorLT1
import Derived.Test.YtjpbbooeihdnfaaDoorLC6
import Derived.Test.YtjpbbooeihdnfaaDoorLBld
import Derived.Lib.ItoaNum
import Derived.Laws.BytesArg
set_option maxRecDepth 20000
set_option linter.unusedSimpArgs false
set_option linter.unusedVariables false
namespace Go.Proofs.YtjpbbooeihdnfaaDoor
open Go.RowKit

theorem shown_any (n : Nat) (w : World) : Calls Tryd.prog 43 #[.int .i64 (n : Int)] w fun e w' => e = .returned (.bool (decide (33 ≤ n ∧ n ≤ 126))) ∧ w = w' := by
  by_cases h1 : 33 ≤ n
  · have d1 : decide ((33 : Int) ≤ (n : Int)) = true := decide_eq_true (by omega)
    have d1n : decide (33 ≤ n) = true := decide_eq_true h1
    by_cases h2 : n ≤ 126
    · have d2 : decide ((n : Int) ≤ 126) = true := decide_eq_true (by omega)
      have d2n : decide (n ≤ 126) = true := decide_eq_true h2
      rw [decide_eq_true ⟨h1, h2⟩]
      clear h1 h2
      go_enter Tryd.func43, Tryd.ntmps43
      go_wp2_with fail
      go_ret
      exact ⟨rfl, rfl⟩
    · have d2 : decide ((n : Int) ≤ 126) = false := decide_eq_false (by omega)
      have d2n : decide (n ≤ 126) = false := decide_eq_false h2
      rw [decide_eq_false (fun e => h2 e.2)]
      clear h1 h2
      go_enter Tryd.func43, Tryd.ntmps43
      go_wp2_with fail
      go_ret
      exact ⟨rfl, rfl⟩
  · have d1 : decide ((33 : Int) ≤ (n : Int)) = false := decide_eq_false (by omega)
    have d1n : decide (33 ≤ n) = false := decide_eq_false h1
    rw [decide_eq_false (fun e => h1 e.1)]
    clear h1
    go_enter Tryd.func43, Tryd.ntmps43
    go_wp2_with fail
    go_ret
    exact ⟨rfl, rfl⟩
theorem truth_text (n : Int) (w : World) : Calls Tryd.prog 25 #[.int .i64 n] w fun e w' => e = .returned (.string ⟨(if n = 0 then [35, 102] else [35, 116] : List UInt8).toArray⟩) ∧ w = w' := by
  by_cases h : n = 0
  · subst h
    go_enter Tryd.func25, Tryd.ntmps25
    go_wp2_with fail
    go_ret
    exact ⟨rfl, rfl⟩
  · have hd : (n == 0) = false := beq_false_of_ne h
    rw [if_neg h]
    go_enter Tryd.func25, Tryd.ntmps25
    go_wp2_with fail
    go_ret
    exact ⟨rfl, rfl⟩
theorem dec_bd : ∀ (f u : Nat), u < 2 ^ f → Lib.decDigits u = (bd 10 f u).reverse.map ch
  | 0, u, h => by
    have : u = 0 := by simpa using h
    subst this
    rw [Lib.decDigits, dif_pos (by omega)]; rfl
  | f + 1, u, h => by
    by_cases hu : u < 10
    · rw [Lib.decDigits, dif_pos hu, bd_small hu h]
      simp [ch, hu]
    · rw [Lib.decDigits, dif_neg hu, bd_big (by omega), dec_bd f (u / 10) (half (by omega) h), List.reverse_cons, List.map_append]
      have h10 : u % 10 < 10 := Nat.mod_lt _ (by omega)
      simp [ch, h10]
theorem itoa_text (a : Int) (h1 : -9223372036854775808 ≤ a) (h2 : a ≤ 9223372036854775807) : Lib.itoa a = numText 10 a := by
  have hu : a.natAbs < 2 ^ 64 := by omega
  unfold Lib.itoa numText
  by_cases ha : a < 0
  · rw [if_pos ha, if_pos ha, dec_bd 64 _ hu]; rfl
  · rw [if_neg ha, if_neg ha, show a.toNat = a.natAbs by omega, dec_bd 64 _ hu]; rfl
theorem below_gr (B : Nat) (w : World) (hB : B ≤ w.heap.size) (k : Nat) (os : Array Obj) : Below B w (Go.Sort.grow (w.drewN k) os) :=
  ⟨rfl, rfl, rfl, by show w.heap.size ≤ (w.heap ++ os).size; rw [Array.size_append]; omega, fun j hj => by show (w.heap ++ os)[j]? = _; exact Array.getElem?_append_left (by omega)⟩
theorem conv2 (cx cy : UInt8) (W : World) (b : Nat) (h0 : W.cell? ⟨b, 0, none⟩ = some (.int .u8 (cx.toNat : Int))) (h1 : W.cell? ⟨b, 1, none⟩ = some (.int .u8 (cy.toNat : Int))) :
    (convert 38 9 (.slice (some ⟨b, 0, none⟩) 2 2)).run Tryd.prog W = .ok (.string ⟨([cx, cy] : List UInt8).toArray⟩) W := by
  have h := run_convert_bytes_arg (P := Tryd.prog) W 38 5 Tryd.underlying38 Tryd.underlying5 b 0 2 2 [(cx.toNat : Int), (cy.toNat : Int)] rfl (fun i hi => by
    match i, hi with
    | 0, _ => exact h0
    | 1, _ => exact h1) 9 Tryd.underlying9
  rw [h]
  have e : ∀ c : UInt8, UInt8.ofNat (c.toNat : Int).toNat = c := fun c => by rw [Int.toNat_natCast]; exact UInt8.ofNat_toNat
  simp [strOfNums, e]
theorem num_text (a : Int) (w : World) (hP : Pow w) (h : Is64 a) : Calls Tryd.prog 24 #[.int .i64 a, .int .i64 10] w fun e w' => e = .returned (.string ⟨(numText 10 a).toArray⟩) ∧ Below w.heap.size w w' := by
  have hb := fun w => base_any 10 w
  have HB := Lib.hid hb
  have hi := Tryd.strconv_FormatInt_10 a h.1 h.2 w hP
  rw [itoa_text a h.1 h.2] at hi
  have HI := Lib.hid hi
  clear hi hb
  go_enter Tryd.func24, Tryd.ntmps24
  go_wp2_with (first
    | (go_at_call 41; refine (HB.out _).mono ?_; rintro e w' ⟨rfl, rfl⟩)
    | (go_at_call 42; refine HI.out.mono ?_; rintro e w' ⟨rfl, k, os, rfl⟩))
  go_ret
  exact ⟨rfl, below_gr _ _ (Nat.le_refl _) _ _⟩
theorem and_15 : ∀ n : Fin 128, bits .and .i64 (n.1 : Int) 15 = ((n.1 % 16 : Nat) : Int) ∧ bits .and .i64 ((n.1 : Int) / 16) 15 = ((n.1 / 16 % 16 : Nat) : Int) := by decide +kernel
theorem two_any (n : Nat) (w : World) (hn : n < 128) : Calls Tryd.prog 44 #[.int .i64 (n : Int)] w fun e w' => e = .returned (.string ⟨(two n).toArray⟩) ∧ Below w.heap.size w w' := by
  have hx := small_at (n / 16 % 16) (by omega)
  have hy := small_at (n % 16) (by omega)
  obtain ⟨a1, a2⟩ := and_15 ⟨n, hn⟩
  unfold two
  have hx16 : n / 16 % 16 < 16 := by omega
  have hy16 : n % 16 < 16 := by omega
  simp only at a1 a2
  generalize n / 16 % 16 = x at *
  generalize n % 16 = y at *
  have hxI : (x : Int) < 16 := by omega
  have hyI : (y : Int) < 16 := by omega
  generalize ch x = cx at *
  generalize ch y = cy at *
  clear hn
  have hcv := conv2 cx cy ((w.alloc (.cells #[.int .u8 (cx.toNat : Int), .int .u8 (cy.toNat : Int)] 5)).drew) w.heap.size (by simp) (by simp)
  have HB := Lib.hid (alloc_below w (.cells #[.int .u8 (cx.toNat : Int), .int .u8 (cy.toNat : Int)] 5))
  go_enter Tryd.func44, Tryd.ntmps44
  go_wp2_with fail
  go_region
  go_wp2_with fail
  go_ret
  exact ⟨rfl, HB.out.trans (Below.refl _ _).drew⟩
end Go.Proofs.YtjpbbooeihdnfaaDoor
