/- lives: the chapter's example. -/
import Derived.Test.YtpdihgmgcamgkaaEncode
import Derived.Test.YtpdihgmgcamgkaaIn
set_option linter.unusedSimpArgs false
set_option maxRecDepth 20000
namespace Go.Proofs.Ytpdihgmgcamgkaa
open Go.RowKit

def exR : Rc := ⟨0, [⟨2, 1, ⟨#[]⟩⟩, ⟨0, 0, ⟨#[]⟩⟩], ⟨#[]⟩⟩
theorem exR_may : mayM exR = true := by decide +kernel
theorem exR_bytes : encS exR = ⟨#[0, 2, 2, 2, 0, 0]⟩ := by
  unfold encS
  rw [exR_may, if_pos rfl]
  unfold rcB exR
  simp only [ptsB, ptB]
  have n2 : numB 2 = [2] := numB_lo (by omega)
  have n0 : numB 0 = [0] := numB_lo (by omega)
  have z1 : zig 1 = 2 := by decide
  have hn : nums ⟨#[]⟩ = [] := by decide
  have hs : (⟨#[]⟩ : ByteArray).size = 0 := rfl
  simp [n2, n0, z1, hn, hs]
  rfl
theorem exR_E : encE exR = 0 := by unfold encE; rw [exR_may]; rfl
theorem exR_B : ∀ p ∈ exR.parts, PtB p := by
  intro p hp
  simp [exR] at hp
  rcases hp with rfl | rfl
  · exact ⟨by unfold I64; decide, by unfold I64; decide, by decide⟩
  · exact ⟨by unfold I64; decide, by unfold I64; decide, by decide⟩
set_option maxHeartbeats 800000 in
theorem lives_any (w : World) : Calls Try.prog 7 #[] w fun e w' => e = .returned (.bool true) ∧ Below w.heap.size w w' := by
  have HP : Hid (Pts (w.alloc (.cells #[.int .i64 2, .int .i64 1, .string ⟨#[]⟩, .int .i64 0, .int .i64 0, .string ⟨#[]⟩] 54)) (some ⟨w.heap.size, 0, none⟩) 2 exR.parts) := Lib.hid ⟨rfl, fun _ => ⟨w.heap.size, 0, rfl, fun i hi => by
    rcases (show i = 0 ∨ i = 1 by omega) with rfl | rfl
    · exact ⟨World.cell?_alloc_new w _ _ 0, World.cell?_alloc_new w _ _ 1, World.cell?_alloc_new w _ _ 2⟩
    · exact ⟨World.cell?_alloc_new w _ _ 3, World.cell?_alloc_new w _ _ 4, World.cell?_alloc_new w _ _ 5⟩⟩⟩
  have HK := Lib.hid (fun k w => kept_any k w)
  go_enter Try.func7, Try.ntmps7
  go_wp2_with fail
  refine (encode_any exR (some ⟨w.heap.size, 0, none⟩) 2 _ (by simp [exR]) (by decide) exR_B HP.out).mono ?_
  rw [exR_bytes, exR_E]
  rintro e w1 ⟨rfl, hb⟩
  have HB : Hid (Below w.heap.size w w1) := Lib.hid (((Below.refl w.heap.size w).alloc (Nat.le_refl _) _).trans (hb.mono (by simp)))
  clear hb
  go_wp2_with fail
  refine (HK.out 4 _).mono ?_
  rintro e w2 ⟨rfl, hb2⟩
  have HB2 := Lib.hid (HB.out.trans (hb2.mono HB.out.size))
  clear hb2
  rw [show (needM 4).kept = true by decide]
  go_wp2_with fail
  refine (HK.out 11 _).mono ?_
  rintro e w3 ⟨rfl, hb3⟩
  have HB3 := Lib.hid (HB2.out.trans (hb3.mono HB2.out.size))
  clear hb3
  rw [show (needM 11).kept = false by decide]
  go_wp2_with fail
  go_ret
  exact ⟨rfl, HB3.out⟩
/-- Are there so few parts, with so short names? -/
def smallM (r : Rc) : Bool := decide (r.parts.length ≤ 300) && (decide (r.bytes.size ≤ 5000) && r.parts.all fun p => decide (p.s.size ≤ 100))
theorem small_no {r : Rc} {i : Nat} (h : i < r.parts.length) (hs : 100 < (r.parts.getD i default).s.size) : smallM r = false := by
  unfold smallM
  rw [Bool.and_eq_false_iff, Bool.and_eq_false_iff]
  refine .inr (.inr ?_)
  rw [List.all_eq_false]
  refine ⟨_, List.getElem_mem h, ?_⟩
  rw [List.getD_eq_getElem?_getD, List.getElem?_eq_getElem h] at hs
  simpa using hs
theorem small_yes {r : Rc} (h1 : r.parts.length ≤ 300) (h2 : r.bytes.size ≤ 5000) (h : ∀ i, i < r.parts.length → (r.parts.getD i default).s.size ≤ 100) : smallM r = true := by
  unfold smallM
  rw [Bool.and_eq_true, Bool.and_eq_true]
  refine ⟨by simpa using h1, by simpa using h2, ?_⟩
  rw [List.all_eq_true]
  intro x hx
  obtain ⟨i, hi, rfl⟩ := List.getElem_of_mem hx
  have := h i hi
  rw [List.getD_eq_getElem?_getD, List.getElem?_eq_getElem hi] at this
  simpa using this
set_option maxHeartbeats 800000 in
theorem small_any (r : Rc) (q : Option Addr) (c : Nat) (w : World) (hn : r.parts.length ≤ 9223372036854775807) (hp : Pts w q r.parts.length r.parts) :
    Calls Try.prog 6 #[r.val q c] w fun e w' => e = .returned (.bool (smallM r)) ∧ Below w.heap.size w w' := by
  have HP := Lib.hid hp
  have HNO : Hid (∀ i, i < r.parts.length → 100 < (r.parts.getD i default).s.size → smallM r = false) := Lib.hid (fun i h hs => small_no h hs)
  have HY : Hid (r.parts.length ≤ 300 → r.bytes.size ≤ 5000 → (∀ i, i < r.parts.length → (r.parts.getD i default).s.size ≤ 100) → smallM r = true) := Lib.hid (fun h1 h2 h3 => small_yes h1 h2 h3)
  have H1 : Hid (300 < r.parts.length → smallM r = false) := Lib.hid (fun h => by unfold smallM; rw [decide_eq_false (by omega)]; rfl)
  have H2 : Hid (5000 < r.bytes.size → smallM r = false) := Lib.hid (fun h => by unfold smallM; rw [decide_eq_false (show ¬ r.bytes.size ≤ 5000 by omega)]; simp)
  clear hp
  obtain ⟨k, l, S⟩ := r
  unfold Rc.val
  simp only at HP HNO HY H1 H2 hn ⊢
  obtain ⟨n, HN⟩ : ∃ n, Hid (l.length = n) := ⟨_, Lib.hid rfl⟩
  obtain ⟨m, HM⟩ : ∃ m, Hid (S.size = m) := ⟨_, Lib.hid rfl⟩
  obtain ⟨b, HB⟩ : ∃ b, Hid (smallM ⟨k, l, S⟩ = b) := ⟨_, Lib.hid rfl⟩
  rw [HN.out] at HP HNO HY H1 hn ⊢
  rw [HM.out] at HY H2
  rw [HB.out] at HNO HY H1 H2 ⊢
  have hm := HM.out
  have HBW : Hid (Below w.heap.size w (w.alloc (.cells #[.int .i64 k, .slice q n c, .string S] 24))) := Lib.hid ((Below.refl _ _).alloc (Nat.le_refl _) _)
  by_cases h1 : 300 < n
  · obtain rfl := H1.out h1
    have hd : decide ((300 : Int) < (n : Int)) = true := decide_eq_true (by omega)
    go_enter Try.func6, Try.ntmps6
    go_wp2_with fail
    go_ret
    exact ⟨rfl, HBW.out⟩
  · have hd : decide ((300 : Int) < (n : Int)) = false := decide_eq_false (by omega)
    by_cases h2 : 5000 < m
    · obtain rfl := H2.out h2
      have hd2 : decide ((5000 : Int) < (m : Int)) = true := decide_eq_true (by omega)
      go_enter Try.func6, Try.ntmps6
      go_wp2_with fail
      go_ret
      exact ⟨rfl, HBW.out⟩
    · have hd2 : decide ((5000 : Int) < (m : Int)) = false := decide_eq_false (by omega)
      go_enter Try.func6, Try.ntmps6
      go_wp2_with fail
      obtain ⟨W, hW⟩ : ∃ W, Hid (w.alloc (.cells #[.int .i64 k, .slice q n c, .string S] 24) = W) := ⟨_, Lib.hid rfl⟩
      have HX : Hid (W.heap[w.heap.size]? = some (.cells #[.int .i64 k, .slice q n c, .string S] 24 (0, 0))) := Lib.hid (by rw [← hW.out]; exact heap_alloc_new w _)
      rw [hW.out] at HBW ⊢
      clear hW
      have e1 := cell_of_row _ _ 1 _ _ _ HX.out
      simp at e1
      have HPW := Lib.hid (HP.out.below (HBW.out.mono (Nat.le_refl _)))
      go_loop [3] (fun iv => ∃ i : Nat, i ≤ n ∧ iv = .int .i64 (i : Int) ∧ Hid (∀ j, j < i → (l.getD j default).s.size ≤ 100)) (fun iv => n - (intOf iv).toNat)
      case atStart => exact ⟨0, by omega, by go_num, Lib.hid (fun j hj => absurd hj (Nat.not_lt_zero j))⟩
      case round =>
        obtain ⟨i, hi, rfl, HJ⟩ := hrel
        by_cases hlt : i < n
        · obtain ⟨bq, o, rfl, hc⟩ := HPW.out.2 (by omega)
          obtain ⟨_, _, p2⟩ := hc i hlt
          have hno := HNO.out i hlt
          obtain ⟨z, HZ⟩ : ∃ z, Hid ((l.getD i default).s.size = z) := ⟨_, Lib.hid rfl⟩
          rw [HZ.out] at hno
          have HNI := Lib.hid hno
          obtain ⟨T, HT⟩ : ∃ T, Hid ((l.getD i default).s = T) := ⟨_, Lib.hid rfl⟩
          rw [HT.out] at p2 HZ
          have hz := HZ.out
          have hd3 : decide ((i : Int) < (n : Int)) = true := by simp; omega
          clear hc hno
          by_cases h3 : 100 < z
          · obtain rfl := HNI.out h3
            have hd4 : decide ((100 : Int) < (z : Int)) = true := decide_eq_true (by omega)
            go_wp2_with fail
            go_ret
            exact ⟨rfl, HBW.out⟩
          · have hd4 : decide ((100 : Int) < (z : Int)) = false := decide_eq_false (by omega)
            have HJ2 : Hid (∀ j, j < i + 1 → (l.getD j default).s.size ≤ 100) := Lib.hid (fun j hj => (Nat.lt_succ_iff_lt_or_eq.1 hj).elim (HJ.out j) (fun e => by rw [e, HT.out, HZ.out]; omega))
            go_wp2_with fail
            go_round
            case rel => exact ⟨i + 1, by omega, by go_num, HJ2⟩
            case measure => simp [intOf]; omega
        · obtain rfl : i = n := by omega
          obtain rfl := HY.out (by omega) (by omega) HJ.out
          go_wp2_with fail
          go_ret
          exact ⟨rfl, HBW.out⟩
end Go.Proofs.Ytpdihgmgcamgkaa
