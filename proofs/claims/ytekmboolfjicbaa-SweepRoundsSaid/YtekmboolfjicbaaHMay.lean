/- Which objects may be. -/
import Derived.Test.YtekmboolfjicbaaHSmall
set_option maxRecDepth 20000
set_option linter.unusedSimpArgs false
namespace Go.Proofs.Ytekmboolfjicbaa
open Go.RowKit

/-- Numbers of 64 bits. -/
def I64 (n : Int) : Prop := -9223372036854775808 ≤ n ∧ n ≤ 9223372036854775807
def FitV (l : List (Int × Int)) : Prop := ∀ x ∈ l, I64 x.1 ∧ I64 x.2
theorem FitV.getD {l : List (Int × Int)} (h : FitV l) (i : Nat) : I64 (l.getD i (0, 0)).1 ∧ I64 (l.getD i (0, 0)).2 := by
  rw [List.getD_eq_getElem?_getD]
  cases e : l[i]? with
  | none => exact ⟨⟨by decide, by decide⟩, ⟨by decide, by decide⟩⟩
  | some x => exact h x (List.mem_of_getElem? e)
/-- An object as it is handed in. -/
structure ObV (w : World) (q : Option Addr) (n : Nat) (p : Option Addr) (d : Nat) (o : Ob) : Prop where
  vs : Vls w q n o.vs
  bs : Bys w p d o.bs
  fit : FitV o.vs
  nl : n ≤ 9223372036854775807
  dl : d ≤ 9223372036854775807
theorem ObV.keep {w w' : World} {q p : Option Addr} {n d : Nat} {o : Ob} (h : ObV w q n p d o) (hq : ∀ b o, q = some ⟨b, o, none⟩ → b < w.heap.size → w'.heap[b]? = w.heap[b]?) (hp : ∀ b o, p = some ⟨b, o, none⟩ → b < w.heap.size → w'.heap[b]? = w.heap[b]?) : ObV w' q n p d o :=
  ⟨h.vs.keep hq, ⟨h.bs.len, h.bs.dig, fun hd => by
    obtain ⟨b, o, e, hc⟩ := h.bs.inn hd
    have hlt := World.block_lt_of_cell? w _ (hc 0 hd)
    exact ⟨b, o, e, fun i hi => (World.cell?_of_block (hp b o e hlt)).trans (hc i hi)⟩⟩, h.fit, h.nl, h.dl⟩
theorem ObV.below {w w' : World} {q p : Option Addr} {n d : Nat} {o : Ob} (h : ObV w q n p d o) (hb : Below w.heap.size w w') : ObV w' q n p d o := h.keep (fun b _ _ hl => hb.block b hl) (fun b _ _ hl => hb.block b hl)
set_option maxHeartbeats 800000 in
theorem valsOf_any (k : Int) (w : World) : Calls Try.prog 52 #[.int .i64 k] w fun e w' => e = .returned (.tuple #[.int .i64 (lowV k : Int), .int .i64 (highV k : Int)]) ∧ w = w' := by
  by_cases h0 : k = 0
  · subst h0
    go_enter Try.func52, Try.ntmps52
    go_wp2_with fail
    go_ret2
    exact ⟨rfl, rfl⟩
  by_cases h5 : k = 5
  · subst h5
    go_enter Try.func52, Try.ntmps52
    go_wp2_with fail
    go_ret2
    exact ⟨rfl, rfl⟩
  by_cases h8 : k = 8
  · subst h8
    go_enter Try.func52, Try.ntmps52
    go_wp2_with fail
    go_ret2
    exact ⟨rfl, rfl⟩
  by_cases h4 : k = 4
  · subst h4
    go_enter Try.func52, Try.ntmps52
    go_wp2_with fail
    go_ret2
    exact ⟨rfl, rfl⟩
  by_cases h2 : k = 2
  · subst h2
    go_enter Try.func52, Try.ntmps52
    go_wp2_with fail
    go_ret2
    exact ⟨rfl, rfl⟩
  by_cases h3 : k = 3
  · subst h3
    go_enter Try.func52, Try.ntmps52
    go_wp2_with fail
    go_ret2
    exact ⟨rfl, rfl⟩
  have HL : Hid (lowV k = 0) := Lib.hid (by unfold lowV; rw [if_neg (by omega), if_neg h4])
  have HH : Hid (highV k = 256) := Lib.hid (by unfold highV; rw [if_neg (by omega), if_neg h4, if_neg (by omega)])
  have d0 : (k == 0) = false := by simp [h0]
  have d5 : (k == 5) = false := by simp [h5]
  have d8 : (k == 8) = false := by simp [h8]
  have d4 : (k == 4) = false := by simp [h4]
  have d2 : (k == 2) = false := by simp [h2]
  have d3 : (k == 3) = false := by simp [h3]
  rw [HL.out, HH.out]
  clear h0 h5 h8 h4 h2 h3 HL HH
  go_enter Try.func52, Try.ntmps52
  go_wp2_with fail
  go_ret2
  exact ⟨rfl, rfl⟩
set_option maxHeartbeats 800000 in
theorem bytesOf_any (k : Int) (w : World) : Calls Try.prog 53 #[.int .i64 k] w fun e w' => e = .returned (.int .i64 (highB k : Int)) ∧ w = w' := by
  by_cases h2 : k = 2
  · subst h2
    go_enter Try.func53, Try.ntmps53
    go_wp2_with fail
    go_ret
    exact ⟨rfl, rfl⟩
  by_cases h3 : k = 3
  · subst h3
    go_enter Try.func53, Try.ntmps53
    go_wp2_with fail
    go_ret
    exact ⟨rfl, rfl⟩
  have HH : Hid (highB k = 0) := Lib.hid (by unfold highB; rw [if_neg (by omega)])
  have d2 : (k == 2) = false := by simp [h2]
  have d3 : (k == 3) = false := by simp [h3]
  rw [HH.out]
  clear h2 h3 HH
  go_enter Try.func53, Try.ntmps53
  go_wp2_with fail
  go_ret
  exact ⟨rfl, rfl⟩
theorem mayO_no_kind {L : Pls} {o : Ob} (h : ¬ (0 ≤ o.k ∧ o.k < 14)) : mayO L o = false := by unfold mayO; simp [h]
theorem mayO_no_low {L : Pls} {o : Ob} (h : o.vs.length < lowV o.k) : mayO L o = false := by
  unfold mayO
  rw [show decide (lowV o.k ≤ o.vs.length ∧ o.vs.length ≤ highV o.k) = false by simp; omega]; simp
theorem mayO_no_high {L : Pls} {o : Ob} (h : highV o.k < o.vs.length) : mayO L o = false := by
  unfold mayO
  rw [show decide (lowV o.k ≤ o.vs.length ∧ o.vs.length ≤ highV o.k) = false by simp; omega]; simp
theorem mayO_no_bytes {L : Pls} {o : Ob} (h : highB o.k < o.bs.length) : mayO L o = false := by
  unfold mayO
  rw [show decide (o.bs.length ≤ highB o.k) = false by simp; omega]; simp
theorem mayO_rest {L : Pls} {o : Ob} (h0 : 0 ≤ o.k ∧ o.k < 14) (h1 : lowV o.k ≤ o.vs.length) (h2 : o.vs.length ≤ highV o.k) (h3 : o.bs.length ≤ highB o.k) : mayO L o = o.vs.all (mayV L) := by
  unfold mayO; simp [h0, h1, h2, h3]
theorem highV_le (k : Int) : highV k ≤ 256 := by unfold highV; split <;> (try split) <;> (try split) <;> omega
section
variable {w : World} {g mb : Nat} {vr : Value} {S : Nat → Option Pos} {m : Hm}
set_option maxHeartbeats 3200000 in
theorem Hp.mayObj (h : Hp w g vr mb S m) (o : Ob) (q p : Option Addr) (n c d e : Nat) (ho : ObV w q n p d o) : Calls Try.prog 30 #[.pointer (some ⟨g, 0, none⟩), .agg #[.int .i64 o.k, .slice q n c, .slice p d e]] w fun e w' => e = .returned (.bool (mayO m.L o)) ∧ Below w.heap.size w w' := by
  by_cases hk0 : o.k < 0
  · rw [mayO_no_kind (by omega)]
    have hd : decide (o.k < 0) = true := decide_eq_true hk0
    generalize o.k = k at *
    clear h ho
    go_enter Try.func30, Try.ntmps30
    go_wp2_with fail
    go_ret
    exact ⟨rfl, (Below.refl _ _).alloc (Nat.le_refl _) _⟩
  have hd : decide (o.k < 0) = false := decide_eq_false hk0
  by_cases hk1 : 14 ≤ o.k
  · rw [mayO_no_kind (by omega)]
    have hd1 : decide (14 ≤ o.k) = true := decide_eq_true hk1
    generalize o.k = k at *
    clear h ho
    go_enter Try.func30, Try.ntmps30
    go_wp2_with fail
    go_ret
    exact ⟨rfl, (Below.refl _ _).alloc (Nat.le_refl _) _⟩
  have hd1 : decide (14 ≤ o.k) = false := decide_eq_false hk1
  have HV := Lib.hid (fun w1 => valsOf_any o.k w1)
  have HB := Lib.hid (fun w1 => bytesOf_any o.k w1)
  have hvl := ho.vs.len
  have hbl := ho.bs.len
  have hnl := ho.nl
  have hdl := ho.dl
  by_cases h1 : n < lowV o.k
  · rw [mayO_no_low (by omega)]
    have e1 : decide (n < lowV o.k) = true := decide_eq_true h1
    have e1i : decide ((n : Int) < (lowV o.k : Int)) = true := by simp; omega
    clear h ho hvl hbl h1
    generalize lowV o.k = lo at *
    generalize highV o.k = hi at *
    generalize highB o.k = hb at *
    generalize o.k = k at *
    go_enter Try.func30, Try.ntmps30
    go_wp2_with (go_at_call 52; with_reducible refine (HV.out _).mono ?_; rintro e w1 ⟨rfl, rfl⟩)
    go_quiet ((first | (go_at_call 53; exact Calls.quiet_of_same ((HB.out _).mono fun _ _ h => ⟨h.1, h.2.symm⟩))))
    go_wp2_with fail
    go_ret
    exact ⟨rfl, below_drewN ((Below.refl _ _).alloc (Nat.le_refl _) _) _⟩
  have e1 : decide (n < lowV o.k) = false := decide_eq_false h1
  have e1i : decide ((n : Int) < (lowV o.k : Int)) = false := by simp; omega
  by_cases h2 : highV o.k < n
  · rw [mayO_no_high (by omega)]
    have e2 : decide (highV o.k < n) = true := decide_eq_true h2
    have e2i : decide ((highV o.k : Int) < (n : Int)) = true := by simp; omega
    clear h ho hvl hbl h1 h2
    generalize lowV o.k = lo at *
    generalize highV o.k = hi at *
    generalize highB o.k = hb at *
    generalize o.k = k at *
    go_enter Try.func30, Try.ntmps30
    go_wp2_with (go_at_call 52; with_reducible refine (HV.out _).mono ?_; rintro e w1 ⟨rfl, rfl⟩)
    go_quiet ((first | (go_at_call 53; exact Calls.quiet_of_same ((HB.out _).mono fun _ _ h => ⟨h.1, h.2.symm⟩))))
    go_wp2_with fail
    go_ret
    exact ⟨rfl, below_drewN ((Below.refl _ _).alloc (Nat.le_refl _) _) _⟩
  have e2 : decide (highV o.k < n) = false := decide_eq_false h2
  have e2i : decide ((highV o.k : Int) < (n : Int)) = false := by simp; omega
  by_cases h3 : highB o.k < d
  · rw [mayO_no_bytes (by omega)]
    have e3 : decide (highB o.k < d) = true := decide_eq_true h3
    have e3i : decide ((highB o.k : Int) < (d : Int)) = true := by simp; omega
    clear h ho hvl hbl h1 h2 h3
    generalize lowV o.k = lo at *
    generalize highV o.k = hi at *
    generalize highB o.k = hb at *
    generalize o.k = k at *
    go_enter Try.func30, Try.ntmps30
    go_wp2_with (go_at_call 52; with_reducible refine (HV.out _).mono ?_; rintro e w1 ⟨rfl, rfl⟩)
    go_quiet ((first | (go_at_call 53; exact Calls.quiet_of_same ((HB.out _).mono fun _ _ h => ⟨h.1, h.2.symm⟩))))
    go_wp2_with fail
    go_ret
    exact ⟨rfl, below_drewN ((Below.refl _ _).alloc (Nat.le_refl _) _) _⟩
  have e3 : decide (highB o.k < d) = false := decide_eq_false h3
  have e3i : decide ((highB o.k : Int) < (d : Int)) = false := by simp; omega
  have HA : Hid (mayO m.L o = o.vs.all (mayV m.L)) := Lib.hid (mayO_rest (by omega) (by omega) (by omega) (by omega))
  rw [HA.out]
  have hn256 : n ≤ 256 := by have := highV_le o.k; omega
  have HM : Hid (∀ w1 K N, Below w.heap.size w w1 → I64 N → Calls Try.prog 42 #[.pointer (some ⟨g, 0, none⟩), .agg #[.int .i64 K, .int .i64 N]] w1 fun e w' => e = .returned (.bool (mayV m.L (K, N))) ∧ Below w1.heap.size w1 w') := Lib.hid fun w1 K N hb hI => (h.below hb).mayVal K N hI.1 hI.2
  have HO := Lib.hid ho
  obtain ⟨vs, HVS⟩ : ∃ vs, Hid (o.vs = vs) := ⟨_, Lib.hid rfl⟩
  rw [HVS.out] at hvl ⊢
  have HVL := Lib.hid ho.vs
  have HF := Lib.hid ho.fit
  rw [HVS.out] at HVL HF
  have hallstop : ∀ i, i < n → mayV m.L (vs.getD i (0, 0)) = false → vs.all (mayV m.L) = false := fun i hi hm => by
    rw [List.all_eq_false]
    refine ⟨vs.getD i (0, 0), ?_, by rw [hm]; decide⟩
    rw [List.getD_eq_getElem?_getD, List.getElem?_eq_getElem (by omega)]
    exact List.getElem_mem _
  have HSTOP := Lib.hid hallstop
  have HALL : Hid ((∀ i, i < n → mayV m.L (vs.getD i (0, 0)) = true) → vs.all (mayV m.L) = true) := Lib.hid (fun hm => by
    rw [List.all_eq_true]
    intro x hx
    obtain ⟨i, hi, rfl⟩ := List.getElem_of_mem hx
    have := hm i (by omega)
    rw [List.getD_eq_getElem?_getD, List.getElem?_eq_getElem hi] at this
    exact this)
  clear h ho hallstop hvl hbl h1 h2 h3 hk0 hk1 HA HVS
  generalize lowV o.k = lo at *
  generalize highV o.k = hi at *
  generalize highB o.k = hb at *
  generalize o.k = k at *
  generalize vs.all (mayV m.L) = ya at *
  go_enter Try.func30, Try.ntmps30
  go_wp2_with (go_at_call 52; with_reducible refine (HV.out _).mono ?_; rintro e w1 ⟨rfl, rfl⟩)
  go_quiet ((first | (go_at_call 53; exact Calls.quiet_of_same ((HB.out _).mono fun _ _ h => ⟨h.1, h.2.symm⟩))))
  have HB1 : Hid (Below w.heap.size w ((w.alloc (.cells #[.int .i64 k, .slice q n c, .slice p d e] 61)).drewN nq)) := Lib.hid (below_drewN ((Below.refl w.heap.size w).alloc (Nat.le_refl _) _) _)
  go_wp2_with fail
  generalize (w.alloc (.cells #[.int .i64 k, .slice q n c, .slice p d e] 61)).drewN nq = W1 at *
  clear e1 e1i e2 e2i e3 e3i hd hd1
  go_loopw [47] (fun iv wr => ∃ i : Nat, i ≤ n ∧ iv = .int .i64 (i : Int) ∧ Hid (∀ j, j < i → mayV m.L (vs.getD j (0, 0)) = true) ∧ Hid (Below w.heap.size w wr)) (fun iv _ => n - (intOf iv).toNat)
  case atStart => exact ⟨0, by omega, by go_num, Lib.hid fun j hj => absurd hj (Nat.not_lt_zero j), HB1⟩
  case round =>
    obtain ⟨i, hi2, rfl, HJ, HBL⟩ := hrel
    by_cases hlt : i < n
    · obtain ⟨b, o', eq, hcell⟩ := HVL.out.2 (by omega)
      subst eq
      obtain ⟨a1, a2⟩ := hcell i hlt
      have x1 := (HBL.out.cell (World.block_lt_of_cell? w _ a1)).trans a1
      have x2 := (HBL.out.cell (World.block_lt_of_cell? w _ a2)).trans a2
      have HI := Lib.hid (HF.out.getD i).2
      have HVC := Lib.hid (HM.out (wr.alloc (.cells #[.int .i64 (vs.getD i (0, 0)).1, .int .i64 (vs.getD i (0, 0)).2] 36)) (vs.getD i (0, 0)).1 (vs.getD i (0, 0)).2 (HBL.out.alloc HBL.out.size _) HI.out)
      have HST : Hid (mayV m.L (vs.getD i (0, 0)) = false → ya = false) := Lib.hid fun h => HSTOP.out i hlt h
      have HNX : Hid (mayV m.L (vs.getD i (0, 0)) = true → ∀ j, j < i + 1 → mayV m.L (vs.getD j (0, 0)) = true) := Lib.hid fun h j hj => (Nat.lt_succ_iff_lt_or_eq.1 hj).elim (HJ.out j) (fun e => by rw [e]; exact h)
      clear hcell a1 a2
      rw [show ((vs.getD i (0, 0)).1, (vs.getD i (0, 0)).2) = vs.getD i (0, 0) from rfl] at HVC
      generalize vs.getD i (0, 0) = y at *
      obtain ⟨K, N⟩ := y
      simp only at HVC x1 x2
      have hll : (i : Int) < (n : Int) := by omega
      cases hm : mayV m.L (K, N) with
      | true =>
        rw [hm] at HVC
        have HN2 := Lib.hid (HNX.out hm)
        clear HNX HST hm
        go_wp2_with (go_at_call 42; with_reducible refine HVC.out.mono ?_; rintro e w1 ⟨rfl, hb⟩; have HBB := Lib.hid hb; clear hb)
        go_roundw
        case rel => exact ⟨i + 1, by omega, by go_num, HN2, Lib.hid ((HBL.out.alloc HBL.out.size _).trans (HBB.out.mono (by have := HBL.out.size; simp; omega)))⟩
        case measure => simp [intOf]; omega
      | false =>
        rw [hm] at HVC
        have HE := HST.out hm
        clear HNX HST hm
        subst HE
        go_wp2_with (go_at_call 42; with_reducible refine HVC.out.mono ?_; rintro e w1 ⟨rfl, hb⟩; have HBB := Lib.hid hb; clear hb)
        go_ret
        exact ⟨rfl, (HBL.out.alloc HBL.out.size _).trans (HBB.out.mono (by have := HBL.out.size; simp; omega))⟩
    · obtain rfl : i = n := by omega
      have HE := HALL.out HJ.out
      subst HE
      have hll : ¬ (i : Int) < (i : Int) := by omega
      go_wp2_with fail
      go_ret
      exact ⟨rfl, HBL.out⟩
end
end Go.Proofs.Ytekmboolfjicbaa
