/- takeBytes; judge. -/
import Derived.Test.YtpdihgmgcamgkaaTakeP
import Derived.Test.YtpdihgmgcamgkaaSized
set_option linter.unusedSimpArgs false
set_option maxRecDepth 20000
namespace Go.Proofs.Ytpdihgmgcamgkaa
open Go.RowKit

theorem bytesM_no {N : Nd} {S : ByteArray} {i : Nat} (hi : i < S.size) (h : N.high < byteAt S i) : bytesM N S = false := by
  unfold bytesM
  rw [Bool.and_eq_false_iff]
  right
  rw [List.all_eq_false]
  refine ⟨(nums S)[i]'(by rw [nums_len]; exact hi), List.getElem_mem _, ?_⟩
  unfold byteAt at h
  rw [List.getD_eq_getElem?_getD, List.getElem?_eq_getElem (by rw [nums_len]; exact hi)] at h
  simpa using h
theorem bytesM_yes {N : Nd} {S : ByteArray} (h0 : (S.size : Int) ≤ N.bytes) (h : ∀ i, i < S.size → byteAt S i ≤ N.high) : bytesM N S = true := by
  unfold bytesM
  rw [Bool.and_eq_true]
  refine ⟨by simpa using h0, ?_⟩
  rw [List.all_eq_true]
  intro x hx
  obtain ⟨i, hi, rfl⟩ := List.getElem_of_mem hx
  have h2 := h i (by rw [← nums_len]; exact hi)
  unfold byteAt at h2
  rw [List.getD_eq_getElem?_getD, List.getElem?_eq_getElem hi] at h2
  simpa using h2
set_option maxHeartbeats 800000 in
theorem takeBytes_any (v : Value) (N : Nd) (S : ByteArray) (w : World) (hS : S.size ≤ 9223372036854775807) (hv : NdV w v N) :
    Calls Try.prog 28 #[v, .string S] w fun e w' => e = .returned (.bool (bytesM N S)) ∧ Below w.heap.size w w' := by
  obtain ⟨q0, k0, c0, rfl, _⟩ := hv
  have HB : Hid (Below w.heap.size w (w.alloc (.cells #[.int .i64 N.least, .int .i64 N.most, .slice q0 k0 c0, .int .i64 N.bytes, .int .u8 (N.high : Int)] 63))) := Lib.hid ((Below.refl _ _).alloc (Nat.le_refl _) _)
  by_cases hL : N.bytes < (S.size : Int)
  · have HR : Hid (bytesM N S = false) := Lib.hid (by unfold bytesM; rw [decide_eq_false (by omega)]; rfl)
    have hd : decide (N.bytes < (S.size : Int)) = true := decide_eq_true hL
    clear hL
    go_enter Try.func28, Try.ntmps28
    go_wp2_with fail
    go_ret
    rw [HR.out]
    exact ⟨rfl, HB.out⟩
  · have hd : decide (N.bytes < (S.size : Int)) = false := decide_eq_false hL
    have HIX : Hid (∀ i, i < S.size → ∀ w, (Instr.index 9 (.string S) (.int .i64 (i : Int))).run Try.prog w = .ok (.int .u8 (byteAt S i : Int)) w) := Lib.hid (fun i hi w => index_any S i hi w)
    have HN : Hid (∀ i, i < S.size → N.high < byteAt S i → bytesM N S = false) := Lib.hid (fun i hi h => bytesM_no hi h)
    have HY : Hid ((∀ i, i < S.size → byteAt S i ≤ N.high) → bytesM N S = true) := Lib.hid (bytesM_yes (by omega))
    obtain ⟨n, HS⟩ : ∃ n, Hid (S.size = n) := ⟨_, Lib.hid rfl⟩
    have hs := HS.out
    rw [HS.out] at HIX HN HY hd hS
    clear hL
    go_enter Try.func28, Try.ntmps28
    go_wp2_with fail
    obtain ⟨w0, hw0⟩ : ∃ w0, Hid (w.alloc (.cells #[.int .i64 N.least, .int .i64 N.most, .slice q0 k0 c0, .int .i64 N.bytes, .int .u8 (N.high : Int)] 63) = w0) := ⟨_, Lib.hid rfl⟩
    have H2 : Hid (w0.heap[w.heap.size]? = some (.cells #[.int .i64 N.least, .int .i64 N.most, .slice q0 k0 c0, .int .i64 N.bytes, .int .u8 (N.high : Int)] 63 (0, 0))) := Lib.hid (by rw [← hw0.out]; exact heap_alloc_new w _)
    rw [hw0.out] at HB
    rw [hw0.out]
    clear hw0
    go_loopw [5, 13] (fun _ iv wr => ∃ i : Nat, i ≤ n ∧ iv = .int .i64 (i : Int) ∧ Hid (∀ j, j < i → byteAt S j ≤ N.high) ∧ Hid (Below w.heap.size w wr) ∧ Hid (wr.heap[w.heap.size]? = some (.cells #[.int .i64 N.least, .int .i64 N.most, .slice q0 k0 c0, .int .i64 N.bytes, .int .u8 (N.high : Int)] 63 (0, 0)))) (fun _ iv _ => n - (intOf iv).toNat)
    case atStart => exact ⟨0, by omega, by go_num, Lib.hid (fun j hj => absurd hj (Nat.not_lt_zero j)), HB, H2⟩
    case round =>
      obtain ⟨i, hi, rfl, HJ, HB, H2⟩ := hrel
      by_cases hlt : i < n
      · have hix := HIX.out i hlt
        have hixd := hix wr.drew
        obtain ⟨x, HX⟩ : ∃ x, Hid (byteAt S i = x) := ⟨_, Lib.hid rfl⟩
        have hNi := HN.out i hlt
        rw [HX.out] at hix hixd hNi
        have HNi := Lib.hid hNi
        clear hNi
        have hd1 : decide ((i : Int) < (n : Int)) = true := by simp; omega
        have k5 := cell_of_row _ _ 4 _ _ _ H2.out
        simp at k5
        by_cases hx : N.high < x
        · have hd2 : decide ((N.high : Int) < (x : Int)) = true := by simp; omega
          have HR := Lib.hid (HNi.out hx)
          go_wp2_with fail
          go_region
          all_goals
            go_wp2_with fail
            go_ret
            rw [HR.out]
            exact ⟨rfl, by first | exact HB.out | exact HB.out.drew⟩
        · have hd2 : decide ((N.high : Int) < (x : Int)) = false := by simp; omega
          go_wp2_with fail
          go_region
          all_goals
            go_wp2_with fail
            go_roundw
            case rel => exact ⟨i + 1, by omega, by go_num, Lib.hid (fun j hj => (Nat.lt_succ_iff_lt_or_eq.1 hj).elim (HJ.out j) (fun e => by rw [e, HX.out]; omega)), by first | exact HB | exact Lib.hid HB.out.drew, by first | exact H2 | exact Lib.hid H2.out⟩
            case measure => simp [intOf]; omega
      · obtain rfl : i = n := by omega
        go_wp2_with fail
        go_ret
        rw [HY.out HJ.out]
        exact ⟨rfl, HB.out⟩
/-- What is wrong, told by a reader's fault and by whether all else is right. -/
def judgeM (f : Int) (b : Bool) : Int := if f = 3 then 3 else if f ≠ 0 ∨ b = false then 4 else 0
set_option maxHeartbeats 800000 in
theorem judge_any (g d : Nat) (bs : List Nat) (f : Int) (b : Bool) (w : World) (h : Rd w g d bs f) :
    Calls Try.prog 31 #[.pointer (some ⟨g, 0, none⟩), .bool b] w fun e w' => e = .returned (.int .i64 (judgeM f b)) ∧ w = w' := by
  have HR := Lib.hid h
  clear h
  by_cases h3 : f = 3
  · subst h3
    go_enter Try.func31, Try.ntmps31
    go_wp2_with (go_at_call 49; refine (fault_any g d bs 3 _ HR.out).mono ?_; rintro e w1 ⟨rfl, rfl⟩)
    go_ret
    exact ⟨rfl, rfl⟩
  · have b3 : (f == 3) = false := beq_eq_false_iff_ne.2 h3
    by_cases h0 : f = 0
    · subst h0
      cases b with
      | false =>
        go_enter Try.func31, Try.ntmps31
        go_wp2_with (go_at_call 49; refine (fault_any g d bs 0 _ HR.out).mono ?_; rintro e w1 ⟨rfl, rfl⟩)
        go_ret
        exact ⟨rfl, rfl⟩
      | true =>
        go_enter Try.func31, Try.ntmps31
        go_wp2_with (go_at_call 49; refine (fault_any g d bs 0 _ HR.out).mono ?_; rintro e w1 ⟨rfl, rfl⟩)
        go_ret
        exact ⟨rfl, rfl⟩
    · have b0 : (f != 0) = true := by simpa using h0
      have HJ : Hid (judgeM f b = 4) := Lib.hid (by unfold judgeM; rw [if_neg h3, if_pos (.inl h0)])
      clear h3 h0
      go_enter Try.func31, Try.ntmps31
      go_wp2_with (go_at_call 49; refine (fault_any g d bs f _ HR.out).mono ?_; rintro e w1 ⟨rfl, rfl⟩)
      go_ret
      rw [HJ.out]
      exact ⟨rfl, rfl⟩
/-- A record by value: its parts lie at q. -/
def Rc.val (r : Rc) (q : Option Addr) (c : Nat) : Value := .agg #[.int .i64 r.kind, .slice q r.parts.length c, .string r.bytes]
set_option maxHeartbeats 1600000 in
theorem may_rec (r : Rc) (q : Option Addr) (c : Nat) (w : World) (hn : r.parts.length ≤ 9223372036854775807) (hS : r.bytes.size ≤ 9223372036854775807) (hp : Pts w q r.parts.length r.parts) :
    Calls Try.prog 11 #[r.val q c] w fun e w' => e = .returned (.bool (mayM r)) ∧ Below w.heap.size w w' := by
  have HP := Lib.hid hp
  clear hp
  obtain ⟨k, l, S⟩ := r
  unfold Rc.val mayM
  simp only at HP hn hS ⊢
  obtain ⟨n, HN⟩ : ∃ n, Hid (l.length = n) := ⟨_, Lib.hid rfl⟩
  rw [HN.out] at HP hn ⊢
  obtain ⟨N, hN⟩ : ∃ N, Hid (needM k = N) := ⟨_, Lib.hid rfl⟩
  have HK := Lib.hid (fun w => needsOf_any k w)
  rw [hN.out] at HK ⊢
  obtain ⟨kept, hk⟩ : ∃ x, Hid (N.kept = x) := ⟨_, Lib.hid rfl⟩
  rw [hk.out]
  have HHA := Lib.hid (fun w => has_any N.least N.most n w)
  obtain ⟨h, hh⟩ : ∃ h, Hid ((decide (N.least ≤ (n : Int)) && decide ((n : Int) ≤ N.most)) = h) := ⟨_, Lib.hid rfl⟩
  obtain ⟨p, hp⟩ : ∃ p, Hid (partsM N 0 l = p) := ⟨_, Lib.hid rfl⟩
  obtain ⟨b, hbm⟩ : ∃ b, Hid (bytesM N S = b) := ⟨_, Lib.hid rfl⟩
  rw [hh.out] at HHA ⊢
  rw [hp.out, hbm.out]
  go_enter Try.func11, Try.ntmps11
  go_wp2_with fail
  refine (HK.out _).mono ?_
  rintro e w1 ⟨v, rfl, hv, hb⟩
  have HV := Lib.hid hv
  obtain ⟨q0, k0, c0, rfl, _⟩ := hv
  rw [hk.out]
  have HW1 : Hid (Below w.heap.size w w1) := Lib.hid (((Below.refl w.heap.size w).alloc (Nat.le_refl _) _).trans (hb.mono (by simp)))
  have H1 : Hid (w1.heap[w.heap.size]? = some (.cells #[.int .i64 k, .slice q n c, .string S] 33 (0, 0))) := Lib.hid (by rw [hb.block w.heap.size (by simp)]; exact heap_alloc_new w _)
  clear hb
  obtain ⟨w2, hw2⟩ : ∃ w2, Hid (w1.alloc (.cells #[.int .i64 N.least, .int .i64 N.most, .slice q0 k0 c0, .int .i64 N.bytes, .int .u8 (N.high : Int)] 63) = w2) := ⟨_, Lib.hid rfl⟩
  have HB12 : Hid (Below w1.heap.size w1 w2) := Lib.hid (by rw [← hw2.out]; exact (Below.refl _ _).alloc (Nat.le_refl _) _)
  have HT : Hid (w2.heap[w1.heap.size]? = some (.cells #[.int .i64 N.least, .int .i64 N.most, .slice q0 k0 c0, .int .i64 N.bytes, .int .u8 (N.high : Int)] 63 (0, 0))) := Lib.hid (by rw [← hw2.out]; exact heap_alloc_new w1 _)
  have HB2 : Hid (Below w.heap.size w w2) := Lib.hid (HW1.out.trans (HB12.out.mono HW1.out.size))
  have H12 : Hid (w2.heap[w.heap.size]? = _) := Lib.hid ((HB12.out.block _ (lt_of_block H1.out)).trans H1.out)
  have HV2 := Lib.hid (HV.out.below HB12.out)
  cases kept with
  | false =>
    go_wp2_with fail
    go_ret
    exact ⟨rfl, HW1.out.alloc HW1.out.size _⟩
  | true =>
    go_upto_region 2 with fail
    rw [hw2.out]
    clear hw2
    have c0' := cell_of_row _ _ 0 _ _ _ HT.out
    have c1 := cell_of_row _ _ 1 _ _ _ HT.out
    have d1 := cell_of_row _ _ 1 _ _ _ H12.out
    simp at c0' c1 d1
    cases h with
    | false =>
      go_wp2_with (go_at_call 26; refine (HHA.out _).mono ?_; rintro e w3 ⟨rfl, hb3⟩; have HB3 := Lib.hid (HB2.out.trans (hb3.mono HB2.out.size)); clear hb3)
      go_ret
      exact ⟨rfl, HB3.out⟩
    | true =>
      have HCL : Hid (∀ u, Below w2.heap.size w2 u → (u.cell? ⟨w1.heap.size, 0, none⟩ = some (.int .i64 N.least) ∧ u.cell? ⟨w1.heap.size, 1, none⟩ = some (.int .i64 N.most) ∧ u.cell? ⟨w1.heap.size, 2, none⟩ = some (.slice q0 k0 c0) ∧ u.cell? ⟨w1.heap.size, 3, none⟩ = some (.int .i64 N.bytes) ∧ u.cell? ⟨w1.heap.size, 4, none⟩ = some (.int .u8 (N.high : Int))) ∧
          u.cell? ⟨w.heap.size, 1, none⟩ = some (.slice q n c) ∧ u.cell? ⟨w.heap.size, 2, none⟩ = some (.string S)) := Lib.hid (fun u hu => by
        have t1 := (hu.block _ (lt_of_block HT.out)).trans HT.out
        have t2 := (hu.block _ (lt_of_block H12.out)).trans H12.out
        refine ⟨⟨?_, ?_, ?_, ?_, ?_⟩, ?_, ?_⟩ <;> first | (rw [cell_of_row _ _ _ _ _ _ t1]; rfl) | (rw [cell_of_row _ _ _ _ _ _ t2]; rfl))
      have HP2 := Lib.hid (HP.out.below (HB2.out.mono (Nat.le_refl _)))
      have HPX := Lib.hid (fun u (hu : Below w2.heap.size w2 u) => takeParts_any _ N q n c l u hn (HV2.out.below hu) (HP2.out.below hu))
      have HBX := Lib.hid (fun u (hu : Below w2.heap.size w2 u) => takeBytes_any _ N S u hS (HV2.out.below hu))
      rw [hp.out] at HPX
      rw [hbm.out] at HBX
      go_wp2_with (go_at_call 26; refine (HHA.out _).mono ?_; rintro e w3 ⟨rfl, hb3⟩; obtain ⟨⟨e0, e1, e2, e3, e4⟩, f1, f2⟩ := HCL.out w3 hb3)
      refine (HPX.out _ hb3).mono ?_
      rintro e w4 ⟨rfl, hb4⟩
      clear e0 e1 e2 e3 e4 f1 f2
      have hb24 := hb3.trans (hb4.mono hb3.size)
      cases p with
      | false =>
        have HB4 := Lib.hid (HB2.out.trans (hb24.mono HB2.out.size))
        clear hb3 hb4 hb24
        go_wp2_with fail
        go_ret
        exact ⟨rfl, HB4.out⟩
      | true =>
        obtain ⟨⟨e0, e1, e2, e3, e4⟩, f1, f2⟩ := HCL.out w4 hb24
        clear hb3 hb4
        go_wp2_with fail
        refine (HBX.out _ hb24).mono ?_
        rintro e w5 ⟨rfl, hb5⟩
        have HB5 := Lib.hid (HB2.out.trans ((hb24.trans (hb5.mono hb24.size)).mono HB2.out.size))
        clear hb5 hb24 e0 e1 e2 e3 e4 f1 f2
        go_wp2_with fail
        go_ret
        exact ⟨rfl, HB5.out⟩
end Go.Proofs.Ytpdihgmgcamgkaa
