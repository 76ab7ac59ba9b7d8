/- What numbers, tag and the rules of some kinds return. -/
import Derived.Test.YtpdihgmgcamgkaaPMem
import Derived.Deep.QuietTactic
import Derived.BigQuiet
import Derived.StillTailTactics
set_option linter.unusedSimpArgs false
set_option maxRecDepth 20000
namespace Go.Proofs.Ytpdihgmgcamgkaa
open Go.RowKit

def Sp.val (s : Sp) : Value := .agg #[.int .i64 s.lo, .int .i64 s.hi]
theorem numM_other {k : Int} (h0 : k ≠ 0) (h1 : k ≠ 1) (h2 : k ≠ 2) (h3 : k ≠ 3) (h4 : k ≠ 4) (h5 : k ≠ 5) (h6 : k ≠ 6) (h7 : k ≠ 7) (h8 : k ≠ 8) : numM k = ⟨0, 0, false⟩ := by
  unfold numM; simp [h0, h1, h2, h3, h4, h5, h6, h7, h8]
theorem nine (k : Int) : k = 0 ∨ k = 1 ∨ k = 2 ∨ k = 3 ∨ k = 4 ∨ k = 5 ∨ k = 6 ∨ k = 7 ∨ k = 8 ∨ (k ≠ 0 ∧ k ≠ 1 ∧ k ≠ 2 ∧ k ≠ 3 ∧ k ≠ 4 ∧ k ≠ 5 ∧ k ≠ 6 ∧ k ≠ 7 ∧ k ≠ 8) := by omega
set_option maxHeartbeats 800000 in
theorem numbers_any (k : Int) (w : World) :
    Calls Try.prog 53 #[.int .i64 k] w fun e w' => e = .returned (.tuple #[(numM k).val, .bool (numM k).ok]) ∧ Below w.heap.size w w' := by
  rcases nine k with rfl | rfl | rfl | rfl | rfl | rfl | rfl | rfl | rfl | ⟨h0, h1, h2, h3, h4, h5, h6, h7, h8⟩
  case inr.inr.inr.inr.inr.inr.inr.inr.inr =>
    rw [numM_other h0 h1 h2 h3 h4 h5 h6 h7 h8]
    have b0 : (k == 0) = false := beq_eq_false_iff_ne.2 h0
    have b1 : (k == 1) = false := beq_eq_false_iff_ne.2 h1
    have b2 : (k == 2) = false := beq_eq_false_iff_ne.2 h2
    have b3 : (k == 3) = false := beq_eq_false_iff_ne.2 h3
    have b4 : (k == 4) = false := beq_eq_false_iff_ne.2 h4
    have b5 : (k == 5) = false := beq_eq_false_iff_ne.2 h5
    have b6 : (k == 6) = false := beq_eq_false_iff_ne.2 h6
    have b7 : (k == 7) = false := beq_eq_false_iff_ne.2 h7
    have b8 : (k == 8) = false := beq_eq_false_iff_ne.2 h8
    clear h0 h1 h2 h3 h4 h5 h6 h7 h8
    go_enter Try.func53, Try.ntmps53
    go_wp2_with fail
    exact bodyPost_ret (v := .tuple #[.agg #[.int .i64 0, .int .i64 0], .bool false]) (by simp [results, Try.results53, go_sem]) rfl ⟨rfl, (Below.refl _ _).alloc (Nat.le_refl _) _⟩
  all_goals
    go_enter Try.func53, Try.ntmps53
    go_wp2_with fail
    first
    | exact bodyPost_ret (v := .tuple #[.agg #[.int .i64 0, .int .i64 0], .bool true]) (by simp [results, Try.results53, go_sem]) rfl ⟨rfl, (Below.refl _ _).alloc (Nat.le_refl _) _⟩
    | exact bodyPost_ret (v := .tuple #[.agg #[.int .i64 (0), .int .i64 1], .bool true]) (by simp [results, Try.results53, go_sem]) rfl ⟨rfl, (Below.refl _ _).alloc (Nat.le_refl _) _⟩
    | exact bodyPost_ret (v := .tuple #[.agg #[.int .i64 (-9223372036854775808), .int .i64 9223372036854775807], .bool true]) (by simp [results, Try.results53, go_sem]) rfl ⟨rfl, (Below.refl _ _).alloc (Nat.le_refl _) _⟩
    | exact bodyPost_ret (v := .tuple #[.agg #[.int .i64 (0), .int .i64 127], .bool true]) (by simp [results, Try.results53, go_sem]) rfl ⟨rfl, (Below.refl _ _).alloc (Nat.le_refl _) _⟩
    | exact bodyPost_ret (v := .tuple #[.agg #[.int .i64 (0), .int .i64 255], .bool true]) (by simp [results, Try.results53, go_sem]) rfl ⟨rfl, (Below.refl _ _).alloc (Nat.le_refl _) _⟩
    | exact bodyPost_ret (v := .tuple #[.agg #[.int .i64 (1), .int .i64 16384], .bool true]) (by simp [results, Try.results53, go_sem]) rfl ⟨rfl, (Below.refl _ _).alloc (Nat.le_refl _) _⟩

set_option maxHeartbeats 400000 in
theorem tag_any (k : Int) (w : World) :
    Calls Try.prog 59 #[.int .i64 k] w fun e w' => e = .returned (.tuple #[.agg #[.int .i64 0, .int .i64 63], .bool (decide (k = 2))]) ∧ Below w.heap.size w w' := by
  have hd : (k == 2) = decide (k = 2) := by cases h : decide (k = 2) <;> simp at h <;> simp [h]
  generalize decide (k = 2) = d at *
  go_enter Try.func59, Try.ntmps59
  go_wp2_with fail
  exact bodyPost_ret (v := .tuple #[.agg #[.int .i64 0, .int .i64 63], .bool d]) (by simp [results, Try.results59, go_sem]) rfl ⟨rfl, (Below.refl _ _).alloc (Nat.le_refl _) _⟩

/-- Where the first one is, or -1. -/
def idxM (k : Int) : List Int → Int → Int
  | [], _ => -1
  | x :: l, i => if k = x then i else idxM k l (i + 1)
theorem idxM_mem (k : Int) : ∀ (l : List Int) (i : Int), 0 ≤ i → (0 ≤ idxM k l i ↔ k ∈ l) := by
  intro l
  induction l with
  | nil => intro i _; simp [idxM]
  | cons x l ih =>
    intro i hi
    unfold idxM
    by_cases h : k = x
    · subst h; rw [if_pos rfl]; simp [hi]
    · rw [if_neg h, ih (i + 1) (by omega)]; simp [h]
set_option maxHeartbeats 800000 in
theorem index_any2 (q : Option Addr) (n c : Nat) (l : List Int) (k : Int) (w : World) (hn : n ≤ 1000) (hq : Ints w q n l) :
    Calls Try.prog 69 #[.slice q n c, .int .i64 k] w fun e w' => e = .returned (.int .i64 (idxM k l 0)) ∧ w = w' := by
  have HL := Lib.hid hq.1
  have HQ := Lib.hid hq.2
  clear hq
  go_enter Try.func69, Try.ntmps69
  go_wp2_with fail
  go_loop [5, 8] (fun _ iv => ∃ i : Nat, i ≤ n ∧ iv = .int .i64 (i : Int) ∧ Hid (idxM k l 0 = idxM k (l.drop i) i)) (fun _ iv => n - (intOf iv).toNat)
  case atStart => exact ⟨0, by omega, by go_num, Lib.hid rfl⟩
  case round =>
    obtain ⟨i, hi, rfl, HI⟩ := hrel
    by_cases hlt : i < n
    · obtain ⟨b, o, rfl, hc⟩ := HQ.out (by omega)
      have hci := hc i hlt
      have HD : Hid (l.drop i = l.getD i 0 :: l.drop (i + 1)) := Lib.hid (by
        rw [List.drop_eq_getElem_cons (by rw [HL.out]; exact hlt), List.getD_eq_getElem?_getD, List.getElem?_eq_getElem (by rw [HL.out]; exact hlt)]; rfl)
      obtain ⟨x, HX⟩ : ∃ x, Hid (l.getD i 0 = x) := ⟨_, Lib.hid rfl⟩
      rw [HX.out] at hci HD
      have hd1 : decide ((i : Int) < (n : Int)) = true := by simp; omega
      clear hc
      by_cases hk : k = x
      · have HR : Hid (idxM k l 0 = i) := Lib.hid (by rw [HI.out, HD.out]; unfold idxM; rw [if_pos hk])
        have hb : (k == x) = true := beq_iff_eq.2 hk
        clear hk
        go_wp2_with fail
        go_ret
        rw [HR.out]
        exact ⟨rfl, rfl⟩
      · have HR : Hid (idxM k l 0 = idxM k (l.drop (i + 1)) ((i + 1 : Nat) : Int)) := Lib.hid (by
          rw [HI.out, HD.out]
          show (if k = x then (i : Int) else idxM k (l.drop (i + 1)) ((i : Int) + 1)) = _
          rw [if_neg hk]
          simp)
        have hb : (k == x) = false := beq_eq_false_iff_ne.2 hk
        clear hk
        go_wp2_with fail
        go_round
        case rel => exact ⟨i + 1, by omega, by go_num, HR⟩
        case measure => simp [intOf]; omega
    · obtain rfl : i = n := by omega
      have HR : Hid (idxM k l 0 = -1) := Lib.hid (by rw [HI.out, ← HL.out, List.drop_length]; rfl)
      go_wp2_with fail
      go_ret
      rw [HR.out]
      exact ⟨rfl, rfl⟩
set_option maxHeartbeats 400000 in
theorem contains_any (q : Option Addr) (n c : Nat) (l : List Int) (k : Int) (b : Bool) (w : World) (hn : n ≤ 1000) (hq : Ints w q n l) (HB : Hid (b = decide (k ∈ l))) :
    Calls Try.prog 64 #[.slice q n c, .int .i64 k] w fun e w' => e = .returned (.bool b) ∧ w = w' := by
  have HI := Lib.hid (index_any2 q n c l k w hn hq)
  have hd : decide (0 ≤ idxM k l 0) = b := by rw [HB.out]; exact decide_eq_decide.2 (idxM_mem k l 0 (by omega))
  clear hq
  generalize idxM k l 0 = z at *
  go_enter Try.func64, Try.ntmps64
  go_wp2_with fail
  refine HI.out.mono ?_
  rintro e w1 ⟨rfl, rfl⟩
  go_wp2_with fail
  go_ret
  exact ⟨rfl, rfl⟩
set_option maxHeartbeats 800000 in
theorem oneOf1_any (B K n : Nat) (l : List Int) (k : Int) (b : Bool) (w : World) (hn : n ≤ 1000) (hB : w.cell? ⟨B, 0, none⟩ = some (.slice (some ⟨K, 0, none⟩) n n)) (hq : Ints w (some ⟨K, 0, none⟩) n l) (HB : Hid (b = decide (k ∈ l))) :
    Calls Try.prog 63 #[.int .i64 k, .pointer (some ⟨B, 0, none⟩)] w fun e w' => e = .returned (.tuple #[(numM k).val, .bool ((numM k).ok && b)]) ∧ Below w.heap.size w w' := by
  have HQ := Lib.hid hq
  have HBC := Lib.hid hB
  have HBL := Lib.hid (World.block_lt_of_cell? w _ hB)
  clear hq hB
  unfold Sp.val
  obtain ⟨lo, hlo⟩ : ∃ x, Hid ((numM k).lo = x) := ⟨_, Lib.hid rfl⟩
  obtain ⟨hi, hhi⟩ : ∃ x, Hid ((numM k).hi = x) := ⟨_, Lib.hid rfl⟩
  obtain ⟨ok, hok⟩ : ∃ x, Hid ((numM k).ok = x) := ⟨_, Lib.hid rfl⟩
  rw [hlo.out, hhi.out, hok.out]
  go_enter Try.func63, Try.ntmps63
  go_wp2_with fail
  refine (numbers_any k _).mono ?_
  unfold Sp.val
  rw [hlo.out, hhi.out, hok.out]
  rintro e w1 ⟨rfl, hb⟩
  have H3 : w1.heap[w.heap.size]? = some (.cells #[.int .i64 0, .int .i64 0] 60 (0, 0)) := by
    rw [hb.block w.heap.size (by simp)]; exact heap_alloc_new w _
  have hb0 : Below w.heap.size w w1 := (Below.refl w.heap.size w).alloc (Nat.le_refl _) (.cells #[.int .i64 0, .int .i64 0] 60) |>.trans (hb.mono (by simp))
  have HC5 : Hid ((w1.alloc (.cells #[.int .i64 lo, .int .i64 hi] 60)).heap[w1.heap.size]? = some (.cells #[.int .i64 lo, .int .i64 hi] 60 (0, 0))) := Lib.hid (heap_alloc_new w1 _)
  have HX : Hid ((w1.alloc (.cells #[.int .i64 lo, .int .i64 hi] 60)).heap[w.heap.size]? = some (.cells #[.int .i64 0, .int .i64 0] 60 (0, 0))) := Lib.hid ((Below.heap_alloc w1 _ _ (lt_of_block H3)).trans H3)
  have HWB : Hid (Below w.heap.size w (w1.alloc (.cells #[.int .i64 lo, .int .i64 hi] 60))) := Lib.hid (hb0.alloc (by have := hb0.size; omega) _)
  have HNE : Hid (w.heap.size < w1.heap.size) := Lib.hid (lt_of_block H3)
  clear hb hb0 H3
  cases ok with
  | false =>
    go_wp2_with fail
    generalize w1.alloc (.cells #[.int .i64 lo, .int .i64 hi] 60) = w2 at *
    have c0 := cell_of_row w2 w.heap.size 0 _ _ _ HX.out
    have c1 := cell_of_row w2 w.heap.size 1 _ _ _ HX.out
    have f0 := frozen_of_row w2 w.heap.size 0 _ _ HX.out
    have f1 := frozen_of_row w2 w.heap.size 1 _ _ HX.out
    have d0 := cell_of_row w2 w1.heap.size 0 _ _ _ HC5.out
    have d1 := cell_of_row w2 w1.heap.size 1 _ _ _ HC5.out
    simp at c0 c1 d0 d1
    have hne : w.heap.size ≠ w1.heap.size := by have := HNE.out; omega
    have x0 : ∀ (V : World) (t : Nat) (a b : Value), V.heap[t]? = some (.cells #[.int .i64 0, .int .i64 0] 60 (0, 0)) → ((V.setCell ⟨t, 0, none⟩ a).setCell ⟨t, 1, none⟩ b).heap[t]? = some (.cells #[a, b] 60 (0, 0)) := fun V t a b h =>
      heap_setCell_same _ t 1 _ _ b (heap_setCell_same V t 0 _ _ a h)
    have y0 := fun a b => x0 w2 w.heap.size a b HX.out
    have z0 : ((w2.setCell ⟨w.heap.size, 0, none⟩ (.int .i64 lo)).setCell ⟨w.heap.size, 1, none⟩ (.int .i64 hi)).cell? ⟨w.heap.size, 0, none⟩ = some (.int .i64 lo) := by rw [cell_of_row _ _ _ _ _ _ (y0 _ _)]; rfl
    have z1 : ((w2.setCell ⟨w.heap.size, 0, none⟩ (.int .i64 lo)).setCell ⟨w.heap.size, 1, none⟩ (.int .i64 hi)).cell? ⟨w.heap.size, 1, none⟩ = some (.int .i64 hi) := by rw [cell_of_row _ _ _ _ _ _ (y0 _ _)]; rfl
    have HY : Hid (Below w.heap.size w ((w2.setCell ⟨w.heap.size, 0, none⟩ (.int .i64 lo)).setCell ⟨w.heap.size, 1, none⟩ (.int .i64 hi))) := Lib.hid ((HWB.out.setCell (Nat.le_refl _) _).setCell (Nat.le_refl _) _)
    clear x0 y0
    go_region
    all_goals go_wp2_with fail
    all_goals exact bodyPost_ret (v := .tuple #[.agg #[.int .i64 lo, .int .i64 hi], .bool false]) (by simp [results, Try.results63, go_sem, Act.put, z0, z1]) rfl ⟨by simp, by first | exact HY.out.drew | exact HY.out⟩
  | true =>
    go_wp2_with fail
    generalize w1.alloc (.cells #[.int .i64 lo, .int .i64 hi] 60) = w2 at *
    have HQ2 := Lib.hid (HQ.out.below (HWB.out.mono (Nat.le_refl _)))
    have c0 := cell_of_row w2 w.heap.size 0 _ _ _ HX.out
    have c1 := cell_of_row w2 w.heap.size 1 _ _ _ HX.out
    have f0 := frozen_of_row w2 w.heap.size 0 _ _ HX.out
    have f1 := frozen_of_row w2 w.heap.size 1 _ _ HX.out
    have d0 := cell_of_row w2 w1.heap.size 0 _ _ _ HC5.out
    have d1 := cell_of_row w2 w1.heap.size 1 _ _ _ HC5.out
    have e0 := (HWB.out.cell HBL.out).trans HBC.out
    simp at c0 c1 d0 d1
    have hne : w.heap.size ≠ w1.heap.size := by have := HNE.out; omega
    have x0 : ∀ (V : World) (t : Nat) (a b : Value), V.heap[t]? = some (.cells #[.int .i64 0, .int .i64 0] 60 (0, 0)) → ((V.setCell ⟨t, 0, none⟩ a).setCell ⟨t, 1, none⟩ b).heap[t]? = some (.cells #[a, b] 60 (0, 0)) := fun V t a b h =>
      heap_setCell_same _ t 1 _ _ b (heap_setCell_same V t 0 _ _ a h)
    have y0 := fun a b => x0 w2 w.heap.size a b HX.out
    have z0 : ((w2.setCell ⟨w.heap.size, 0, none⟩ (.int .i64 lo)).setCell ⟨w.heap.size, 1, none⟩ (.int .i64 hi)).cell? ⟨w.heap.size, 0, none⟩ = some (.int .i64 lo) := by rw [cell_of_row _ _ _ _ _ _ (y0 _ _)]; rfl
    have z1 : ((w2.setCell ⟨w.heap.size, 0, none⟩ (.int .i64 lo)).setCell ⟨w.heap.size, 1, none⟩ (.int .i64 hi)).cell? ⟨w.heap.size, 1, none⟩ = some (.int .i64 hi) := by rw [cell_of_row _ _ _ _ _ _ (y0 _ _)]; rfl
    have HY : Hid (Below w.heap.size w ((w2.setCell ⟨w.heap.size, 0, none⟩ (.int .i64 lo)).setCell ⟨w.heap.size, 1, none⟩ (.int .i64 hi))) := Lib.hid ((HWB.out.setCell (Nat.le_refl _) _).setCell (Nat.le_refl _) _)
    clear x0 y0
    go_region_with (first | (go_at_call 64; refine (contains_any _ n n l k b _ hn (HQ2.out.below (by first | exact Below.refl _ _ | exact (Below.refl _ _).drew)) HB).mono ?_; rintro e w5 ⟨rfl, rfl⟩))
    all_goals go_wp2_with fail
    all_goals exact bodyPost_ret (v := .tuple #[.agg #[.int .i64 lo, .int .i64 hi], .bool b]) (by simp [results, Try.results63, go_sem, Act.put, z0, z1]) rfl ⟨by simp, by first | exact HY.out.drew | exact HY.out⟩
end Go.Proofs.Ytpdihgmgcamgkaa
