/- Texts HMay to RdN of this seat, laid into one. -/
import Derived.DeepKeys4
import Derived.KernelRfl
import Derived.Maps.OwnSet
import Derived.Test.YthjjgpepgbfalaaGreatDoorM01
import Derived.Test.YthjjgpepgbfalaaGreatDoorM02
set_option linter.unusedVariables false
set_option linter.unusedSimpArgs false
set_option linter.constructorNameAsVariable false
section
/-! Which objects may be. -/
set_option maxRecDepth 20000
set_option linter.unusedSimpArgs false
namespace Go.Proofs.YthjjgpepgbfalaaGreatDoor
open Go.RowKit

/-- Numbers of 64 bits. -/
def I64 (n : Int) : Prop := -9223372036854775808 ≤ n ∧ n ≤ 9223372036854775807
def FitV (l : List (Int × Int)) : Prop := ∀ x ∈ l, I64 x.1 ∧ I64 x.2
theorem FitV.getD {l : List (Int × Int)} (h : FitV l) (i : Nat) : I64 (l.getD i (0, 0)).1 ∧ I64 (l.getD i (0, 0)).2 := by
  rw [List.getD_eq_getElem?_getD]
  cases e : l[i]? with
  | none => exact ⟨⟨by decide, by decide⟩, ⟨by decide, by decide⟩⟩
  | some x => exact h x (List.mem_of_getElem? e)
/-- An object as it is handed in. -/
structure ObV (w : World) (q : Option Addr) (n : Nat) (p : Option Addr) (d : Nat) (o : Ob) : Prop where
  vs : Vls w q n o.vs
  bs : Bys w p d o.bs
  fit : FitV o.vs
  nl : n ≤ 9223372036854775807
  dl : d ≤ 9223372036854775807
theorem ObV.keep {w w' : World} {q p : Option Addr} {n d : Nat} {o : Ob} (h : ObV w q n p d o) (hq : ∀ b o, q = some ⟨b, o, none⟩ → b < w.heap.size → w'.heap[b]? = w.heap[b]?) (hp : ∀ b o, p = some ⟨b, o, none⟩ → b < w.heap.size → w'.heap[b]? = w.heap[b]?) : ObV w' q n p d o :=
  ⟨h.vs.keep hq, ⟨h.bs.len, h.bs.dig, fun hd => by
    obtain ⟨b, o, e, hc⟩ := h.bs.inn hd
    have hlt := World.block_lt_of_cell? w _ (hc 0 hd)
    exact ⟨b, o, e, fun i hi => (World.cell?_of_block (hp b o e hlt)).trans (hc i hi)⟩⟩, h.fit, h.nl, h.dl⟩
theorem ObV.below {w w' : World} {q p : Option Addr} {n d : Nat} {o : Ob} (h : ObV w q n p d o) (hb : Below w.heap.size w w') : ObV w' q n p d o := h.keep (fun b _ _ hl => hb.block b hl) (fun b _ _ hl => hb.block b hl)
set_option maxHeartbeats 800000 in
theorem valsOf_any (k : Int) (w : World) : Calls Tryz.prog 103 #[.int .i64 k] w fun e w' => e = .returned (.tuple #[.int .i64 (lowV k : Int), .int .i64 (highV k : Int)]) ∧ w = w' := by
  by_cases h0 : k = 0
  · subst h0
    go_enter Tryz.func103, Tryz.ntmps103
    go_wp2_with fail
    go_ret2
    exact ⟨rfl, rfl⟩
  by_cases h5 : k = 5
  · subst h5
    go_enter Tryz.func103, Tryz.ntmps103
    go_wp2_with fail
    go_ret2
    exact ⟨rfl, rfl⟩
  by_cases h8 : k = 8
  · subst h8
    go_enter Tryz.func103, Tryz.ntmps103
    go_wp2_with fail
    go_ret2
    exact ⟨rfl, rfl⟩
  by_cases h4 : k = 4
  · subst h4
    go_enter Tryz.func103, Tryz.ntmps103
    go_wp2_with fail
    go_ret2
    exact ⟨rfl, rfl⟩
  by_cases h2 : k = 2
  · subst h2
    go_enter Tryz.func103, Tryz.ntmps103
    go_wp2_with fail
    go_ret2
    exact ⟨rfl, rfl⟩
  by_cases h3 : k = 3
  · subst h3
    go_enter Tryz.func103, Tryz.ntmps103
    go_wp2_with fail
    go_ret2
    exact ⟨rfl, rfl⟩
  have HL : Hid (lowV k = 0) := Lib.hid (by unfold lowV; rw [if_neg (by omega), if_neg h4])
  have HH : Hid (highV k = 256) := Lib.hid (by unfold highV; rw [if_neg (by omega), if_neg h4, if_neg (by omega)])
  have d0 : (k == 0) = false := by simp [h0]
  have d5 : (k == 5) = false := by simp [h5]
  have d8 : (k == 8) = false := by simp [h8]
  have d4 : (k == 4) = false := by simp [h4]
  have d2 : (k == 2) = false := by simp [h2]
  have d3 : (k == 3) = false := by simp [h3]
  rw [HL.out, HH.out]
  clear h0 h5 h8 h4 h2 h3 HL HH
  go_enter Tryz.func103, Tryz.ntmps103
  go_wp2_with fail
  go_ret2
  exact ⟨rfl, rfl⟩
set_option maxHeartbeats 800000 in
theorem bytesOf_any (k : Int) (w : World) : Calls Tryz.prog 104 #[.int .i64 k] w fun e w' => e = .returned (.int .i64 (highB k : Int)) ∧ w = w' := by
  by_cases h2 : k = 2
  · subst h2
    go_enter Tryz.func104, Tryz.ntmps104
    go_wp2_with fail
    go_ret
    exact ⟨rfl, rfl⟩
  by_cases h3 : k = 3
  · subst h3
    go_enter Tryz.func104, Tryz.ntmps104
    go_wp2_with fail
    go_ret
    exact ⟨rfl, rfl⟩
  have HH : Hid (highB k = 0) := Lib.hid (by unfold highB; rw [if_neg (by omega)])
  have d2 : (k == 2) = false := by simp [h2]
  have d3 : (k == 3) = false := by simp [h3]
  rw [HH.out]
  clear h2 h3 HH
  go_enter Tryz.func104, Tryz.ntmps104
  go_wp2_with fail
  go_ret
  exact ⟨rfl, rfl⟩
theorem mayO_no_kind {L : Pls} {o : Ob} (h : ¬ (0 ≤ o.k ∧ o.k < 14)) : mayO L o = false := by unfold mayO; simp [h]
theorem mayO_no_low {L : Pls} {o : Ob} (h : o.vs.length < lowV o.k) : mayO L o = false := by
  unfold mayO
  rw [show decide (lowV o.k ≤ o.vs.length ∧ o.vs.length ≤ highV o.k) = false by simp; omega]; simp
theorem mayO_no_high {L : Pls} {o : Ob} (h : highV o.k < o.vs.length) : mayO L o = false := by
  unfold mayO
  rw [show decide (lowV o.k ≤ o.vs.length ∧ o.vs.length ≤ highV o.k) = false by simp; omega]; simp
theorem mayO_no_bytes {L : Pls} {o : Ob} (h : highB o.k < o.bs.length) : mayO L o = false := by
  unfold mayO
  rw [show decide (o.bs.length ≤ highB o.k) = false by simp; omega]; simp
theorem mayO_rest {L : Pls} {o : Ob} (h0 : 0 ≤ o.k ∧ o.k < 14) (h1 : lowV o.k ≤ o.vs.length) (h2 : o.vs.length ≤ highV o.k) (h3 : o.bs.length ≤ highB o.k) : mayO L o = o.vs.all (mayV L) := by
  unfold mayO; simp [h0, h1, h2, h3]
theorem highV_le (k : Int) : highV k ≤ 256 := by unfold highV; split <;> (try split) <;> (try split) <;> omega
section
variable {w : World} {g mb : Nat} {vr : Value} {S : Nat → Option Pos} {m : Hm}
set_option maxHeartbeats 3200000 in
theorem Hp.mayObj (h : Hp w g vr mb S m) (o : Ob) (q p : Option Addr) (n c d e : Nat) (ho : ObV w q n p d o) : Calls Tryz.prog 75 #[.pointer (some ⟨g, 0, none⟩), .agg #[.int .i64 o.k, .slice q n c, .slice p d e]] w fun e w' => e = .returned (.bool (mayO m.L o)) ∧ Below w.heap.size w w' := by
  by_cases hk0 : o.k < 0
  · rw [mayO_no_kind (by omega)]
    have hd : decide (o.k < 0) = true := decide_eq_true hk0
    generalize o.k = k at *
    clear h ho
    go_enter Tryz.func75, Tryz.ntmps75
    go_wp2_with fail
    go_ret
    exact ⟨rfl, (Below.refl _ _).alloc (Nat.le_refl _) _⟩
  have hd : decide (o.k < 0) = false := decide_eq_false hk0
  by_cases hk1 : 14 ≤ o.k
  · rw [mayO_no_kind (by omega)]
    have hd1 : decide (14 ≤ o.k) = true := decide_eq_true hk1
    generalize o.k = k at *
    clear h ho
    go_enter Tryz.func75, Tryz.ntmps75
    go_wp2_with fail
    go_ret
    exact ⟨rfl, (Below.refl _ _).alloc (Nat.le_refl _) _⟩
  have hd1 : decide (14 ≤ o.k) = false := decide_eq_false hk1
  have HV := Lib.hid (fun w1 => valsOf_any o.k w1)
  have HB := Lib.hid (fun w1 => bytesOf_any o.k w1)
  have hvl := ho.vs.len
  have hbl := ho.bs.len
  have hnl := ho.nl
  have hdl := ho.dl
  by_cases h1 : n < lowV o.k
  · rw [mayO_no_low (by omega)]
    have e1 : decide (n < lowV o.k) = true := decide_eq_true h1
    have e1i : decide ((n : Int) < (lowV o.k : Int)) = true := by simp; omega
    clear h ho hvl hbl h1
    generalize lowV o.k = lo at *
    generalize highV o.k = hi at *
    generalize highB o.k = hb at *
    generalize o.k = k at *
    go_enter Tryz.func75, Tryz.ntmps75
    go_wp2_with (go_at_call 103; with_reducible refine (HV.out _).mono ?_; rintro e w1 ⟨rfl, rfl⟩)
    go_quiet ((first | (go_at_call 104; exact Calls.quiet_of_same ((HB.out _).mono fun _ _ h => ⟨h.1, h.2.symm⟩))))
    go_wp2_with fail
    go_ret
    exact ⟨rfl, below_drewN ((Below.refl _ _).alloc (Nat.le_refl _) _) _⟩
  have e1 : decide (n < lowV o.k) = false := decide_eq_false h1
  have e1i : decide ((n : Int) < (lowV o.k : Int)) = false := by simp; omega
  by_cases h2 : highV o.k < n
  · rw [mayO_no_high (by omega)]
    have e2 : decide (highV o.k < n) = true := decide_eq_true h2
    have e2i : decide ((highV o.k : Int) < (n : Int)) = true := by simp; omega
    clear h ho hvl hbl h1 h2
    generalize lowV o.k = lo at *
    generalize highV o.k = hi at *
    generalize highB o.k = hb at *
    generalize o.k = k at *
    go_enter Tryz.func75, Tryz.ntmps75
    go_wp2_with (go_at_call 103; with_reducible refine (HV.out _).mono ?_; rintro e w1 ⟨rfl, rfl⟩)
    go_quiet ((first | (go_at_call 104; exact Calls.quiet_of_same ((HB.out _).mono fun _ _ h => ⟨h.1, h.2.symm⟩))))
    go_wp2_with fail
    go_ret
    exact ⟨rfl, below_drewN ((Below.refl _ _).alloc (Nat.le_refl _) _) _⟩
  have e2 : decide (highV o.k < n) = false := decide_eq_false h2
  have e2i : decide ((highV o.k : Int) < (n : Int)) = false := by simp; omega
  by_cases h3 : highB o.k < d
  · rw [mayO_no_bytes (by omega)]
    have e3 : decide (highB o.k < d) = true := decide_eq_true h3
    have e3i : decide ((highB o.k : Int) < (d : Int)) = true := by simp; omega
    clear h ho hvl hbl h1 h2 h3
    generalize lowV o.k = lo at *
    generalize highV o.k = hi at *
    generalize highB o.k = hb at *
    generalize o.k = k at *
    go_enter Tryz.func75, Tryz.ntmps75
    go_wp2_with (go_at_call 103; with_reducible refine (HV.out _).mono ?_; rintro e w1 ⟨rfl, rfl⟩)
    go_quiet ((first | (go_at_call 104; exact Calls.quiet_of_same ((HB.out _).mono fun _ _ h => ⟨h.1, h.2.symm⟩))))
    go_wp2_with fail
    go_ret
    exact ⟨rfl, below_drewN ((Below.refl _ _).alloc (Nat.le_refl _) _) _⟩
  have e3 : decide (highB o.k < d) = false := decide_eq_false h3
  have e3i : decide ((highB o.k : Int) < (d : Int)) = false := by simp; omega
  have HA : Hid (mayO m.L o = o.vs.all (mayV m.L)) := Lib.hid (mayO_rest (by omega) (by omega) (by omega) (by omega))
  rw [HA.out]
  have hn256 : n ≤ 256 := by have := highV_le o.k; omega
  have HM : Hid (∀ w1 K N, Below w.heap.size w w1 → I64 N → Calls Tryz.prog 84 #[.pointer (some ⟨g, 0, none⟩), .agg #[.int .i64 K, .int .i64 N]] w1 fun e w' => e = .returned (.bool (mayV m.L (K, N))) ∧ Below w1.heap.size w1 w') := Lib.hid fun w1 K N hb hI => (h.below hb).mayVal K N hI.1 hI.2
  have HO := Lib.hid ho
  obtain ⟨vs, HVS⟩ : ∃ vs, Hid (o.vs = vs) := ⟨_, Lib.hid rfl⟩
  rw [HVS.out] at hvl ⊢
  have HVL := Lib.hid ho.vs
  have HF := Lib.hid ho.fit
  rw [HVS.out] at HVL HF
  have hallstop : ∀ i, i < n → mayV m.L (vs.getD i (0, 0)) = false → vs.all (mayV m.L) = false := fun i hi hm => by
    rw [List.all_eq_false]
    refine ⟨vs.getD i (0, 0), ?_, by rw [hm]; decide⟩
    rw [List.getD_eq_getElem?_getD, List.getElem?_eq_getElem (by omega)]
    exact List.getElem_mem _
  have HSTOP := Lib.hid hallstop
  have HALL : Hid ((∀ i, i < n → mayV m.L (vs.getD i (0, 0)) = true) → vs.all (mayV m.L) = true) := Lib.hid (fun hm => by
    rw [List.all_eq_true]
    intro x hx
    obtain ⟨i, hi, rfl⟩ := List.getElem_of_mem hx
    have := hm i (by omega)
    rw [List.getD_eq_getElem?_getD, List.getElem?_eq_getElem hi] at this
    exact this)
  clear h ho hallstop hvl hbl h1 h2 h3 hk0 hk1 HA HVS
  generalize lowV o.k = lo at *
  generalize highV o.k = hi at *
  generalize highB o.k = hb at *
  generalize o.k = k at *
  generalize vs.all (mayV m.L) = ya at *
  go_enter Tryz.func75, Tryz.ntmps75
  go_wp2_with (go_at_call 103; with_reducible refine (HV.out _).mono ?_; rintro e w1 ⟨rfl, rfl⟩)
  go_quiet ((first | (go_at_call 104; exact Calls.quiet_of_same ((HB.out _).mono fun _ _ h => ⟨h.1, h.2.symm⟩))))
  have HB1 : Hid (Below w.heap.size w ((w.alloc (.cells #[.int .i64 k, .slice q n c, .slice p d e] 103)).drewN nq)) := Lib.hid (below_drewN ((Below.refl w.heap.size w).alloc (Nat.le_refl _) _) _)
  go_wp2_with fail
  generalize (w.alloc (.cells #[.int .i64 k, .slice q n c, .slice p d e] 103)).drewN nq = W1 at *
  clear e1 e1i e2 e2i e3 e3i hd hd1
  go_loopw [47] (fun iv wr => ∃ i : Nat, i ≤ n ∧ iv = .int .i64 (i : Int) ∧ Hid (∀ j, j < i → mayV m.L (vs.getD j (0, 0)) = true) ∧ Hid (Below w.heap.size w wr)) (fun iv _ => n - (RowKit.intOf iv).toNat)
  case atStart => exact ⟨0, by omega, by go_num, Lib.hid fun j hj => absurd hj (Nat.not_lt_zero j), HB1⟩
  case round =>
    obtain ⟨i, hi2, rfl, HJ, HBL⟩ := hrel
    by_cases hlt : i < n
    · obtain ⟨b, o', eq, hcell⟩ := HVL.out.2 (by omega)
      subst eq
      obtain ⟨a1, a2⟩ := hcell i hlt
      have x1 := (HBL.out.cell (World.block_lt_of_cell? w _ a1)).trans a1
      have x2 := (HBL.out.cell (World.block_lt_of_cell? w _ a2)).trans a2
      have HI := Lib.hid (HF.out.getD i).2
      have HVC := Lib.hid (HM.out (wr.alloc (.cells #[.int .i64 (vs.getD i (0, 0)).1, .int .i64 (vs.getD i (0, 0)).2] 36)) (vs.getD i (0, 0)).1 (vs.getD i (0, 0)).2 (HBL.out.alloc HBL.out.size _) HI.out)
      have HST : Hid (mayV m.L (vs.getD i (0, 0)) = false → ya = false) := Lib.hid fun h => HSTOP.out i hlt h
      have HNX : Hid (mayV m.L (vs.getD i (0, 0)) = true → ∀ j, j < i + 1 → mayV m.L (vs.getD j (0, 0)) = true) := Lib.hid fun h j hj => (Nat.lt_succ_iff_lt_or_eq.1 hj).elim (HJ.out j) (fun e => by rw [e]; exact h)
      clear hcell a1 a2
      rw [show ((vs.getD i (0, 0)).1, (vs.getD i (0, 0)).2) = vs.getD i (0, 0) from rfl] at HVC
      generalize vs.getD i (0, 0) = y at *
      obtain ⟨K, N⟩ := y
      simp only at HVC x1 x2
      have hll : (i : Int) < (n : Int) := by omega
      cases hm : mayV m.L (K, N) with
      | true =>
        rw [hm] at HVC
        have HN2 := Lib.hid (HNX.out hm)
        clear HNX HST hm
        go_wp2_with (go_at_call 84; with_reducible refine HVC.out.mono ?_; rintro e w1 ⟨rfl, hb⟩; have HBB := Lib.hid hb; clear hb)
        go_roundw
        case rel => exact ⟨i + 1, by omega, by go_num, HN2, Lib.hid ((HBL.out.alloc HBL.out.size _).trans (HBB.out.mono (by have := HBL.out.size; simp; omega)))⟩
        case measure => simp [RowKit.intOf]; omega
      | false =>
        rw [hm] at HVC
        have HE := HST.out hm
        clear HNX HST hm
        subst HE
        go_wp2_with (go_at_call 84; with_reducible refine HVC.out.mono ?_; rintro e w1 ⟨rfl, hb⟩; have HBB := Lib.hid hb; clear hb)
        go_ret
        exact ⟨rfl, (HBL.out.alloc HBL.out.size _).trans (HBB.out.mono (by have := HBL.out.size; simp; omega))⟩
    · obtain rfl : i = n := by omega
      have HE := HALL.out HJ.out
      subst HE
      have hll : ¬ (i : Int) < (i : Int) := by omega
      go_wp2_with fail
      go_ret
      exact ⟨rfl, HBL.out⟩
end
end Go.Proofs.YthjjgpepgbfalaaGreatDoor
end
section
/-! A map from things of any kind to things of any kind, in memory: what is looked up, what is stored, how many there are. -/
set_option maxRecDepth 20000
namespace Go.Proofs.YthjjgpepgbfalaaGreatDoor
open Go.RowKit Go.Maps Go.MapKept
open Go.WideElems (rd rg pl rd_key rd_val rg_of rd_mk)
open Go.ChangeMaps (notKey putKey delKey setBlock heap_setBlock_same heap_setBlock_other mem_insert_iff)
open Go.WideShapes (sorted_perm)

/-- Each value reads as nothing, in such a map. -/
def contG (_ : Value) : Option (DataW Unit × List MemPlace) := some (.lit (.int .i64 0), [])
abbrev datG : DataW Unit := DataW.lit (.int .i64 0)
/-- How a map's keys and values are spelled. -/
structure MapT {K V : Type} (k t vt : TypeId) (dom : K → Prop) (kv : K → Value) (vv : V → Value) (zv : Value) : Prop where
  keyed : Keyed Tryz.prog k
  und : Tryz.prog.underlying t = some (.map k vt)
  lit : ∀ x, dom x → ∃ l, keyOf Tryz.prog k (kv x) = some l
  inj : ∀ x y, kv x = kv y → x = y
  zero : ∀ w, (zeroValue vt).run Tryz.prog w = .ok zv w
/-- Block b is a map that has these things, at most n. -/
structure Gmm {K V : Type} (k : TypeId) (dom : K → Prop) (kv : K → Value) (vv : V → Value) (w : World) (b : Nat) (es : Array MapEntry) (clock n : Nat) (f : K → Option V) : Prop where
  hb : w.heap[b]? = some (.map es clock)
  fit : WideElems.Fit Tryz.prog k contG es clock
  only : ∀ x ∈ es.toList, ∃ (l : K) (s : V), dom l ∧ x.key = kv l ∧ x.val = vv s ∧ f l = some s
  all : ∀ (l : K) (s : V), f l = some s → dom l ∧ ∃ x ∈ es.toList, x.key = kv l
  size : es.size ≤ n
def GMap {K V : Type} (k : TypeId) (dom : K → Prop) (kv : K → Value) (vv : V → Value) (w : World) (b n : Nat) (f : K → Option V) : Prop := ∃ es clock, Gmm k dom kv vv w b es clock n f
section
variable {K V : Type} {k t vt : TypeId} {dom : K → Prop} {kv : K → Value} {vv : V → Value} {zv : Value} {w w' : World} {b n : Nat} {f : K → Option V}
theorem GMap.lt (h : GMap k dom kv vv w b n f) : b < w.heap.size := by
  obtain ⟨es, clock, h⟩ := h
  exact (Array.getElem?_eq_some_iff.1 h.hb).1
theorem GMap.same (h : GMap k dom kv vv w b n f) (hb : w'.heap[b]? = w.heap[b]?) : GMap k dom kv vv w' b n f := by
  obtain ⟨es, clock, h⟩ := h
  exact ⟨es, clock, hb.trans h.hb, h.fit, h.only, h.all, h.size⟩
theorem GMap.below (h : GMap k dom kv vv w b n f) (hb : Below w.heap.size w w') : GMap k dom kv vv w' b n f := h.same (hb.block b h.lt)
theorem GMap.isMap (h : GMap k dom kv vv w b n f) : ∃ es c, w.heap[b]? = some (.map es c) := by
  obtain ⟨es, clock, h⟩ := h
  exact ⟨es, clock, h.hb⟩
theorem GMap.more (h : GMap k dom kv vv w b n f) {m : Nat} (hm : n ≤ m) : GMap k dom kv vv w b m f := by
  obtain ⟨es, clock, h⟩ := h
  exact ⟨es, clock, h.hb, h.fit, h.only, h.all, Nat.le_trans h.size hm⟩
theorem GMap.inDom (h : GMap k dom kv vv w b n f) {x : K} {s : V} (hx : f x = some s) : dom x := by
  obtain ⟨es, clock, h⟩ := h
  exact (h.all x s hx).1
/-- .. other things that are spelled alike. -/
theorem GMap.congr {V' : Type} {vv' : V' → Value} {f' : K → Option V'} (h : GMap k dom kv vv w b n f) (hf : ∀ x, dom x → (∀ s, f x = some s → ∃ s', f' x = some s' ∧ vv' s' = vv s) ∧ (f x = none → f' x = none)) (hd : ∀ x s, f' x = some s → dom x) : GMap k dom kv vv' w b n f' := by
  obtain ⟨es, clock, h⟩ := h
  refine ⟨es, clock, h.hb, h.fit, fun x hx => ?_, fun l s hl => ?_, h.size⟩
  · obtain ⟨l, s, hl, hk, hv, hf2⟩ := h.only x hx
    obtain ⟨s', h1, h2⟩ := (hf l hl).1 s hf2
    exact ⟨l, s', hl, hk, hv.trans h2.symm, h1⟩
  · have hl2 := hd l s hl
    cases hf2 : f l with
    | none => rw [(hf l hl2).2 hf2] at hl; cases hl
    | some s2 => exact h.all l s2 hf2
theorem GMap.made (w : World) : GMap k dom kv vv (w.alloc (.map #[] 0)) w.heap.size 0 (fun _ => none) :=
  ⟨#[], 0, (MapKept.heap_alloc w _).1, ⟨by simp, stamped_empty 0, by simp⟩, by simp, (fun l s h => by cases h), by simp⟩
/-- 'm[x]', with 'ok'. -/
theorem GMap.look (T : MapT k t vt dom kv vv zv) (h : GMap k dom kv vv w b n f) (x : K) (hx : dom x) :
    (Instr.lookup t (.map (some b)) (kv x) true).run Tryz.prog w = .ok (.tuple #[(f x).elim zv vv, .bool (f x).isSome]) w := by
  obtain ⟨es, clock, h⟩ := h
  obtain ⟨lx, hkey⟩ := T.lit x hx
  rcases fit_look true T.keyed T.und (T.zero w) h.hb h.fit hkey with ⟨hrun, hno, _⟩ | ⟨e0, y, he, hk, hrun, _⟩
  · have hn : f x = none := by
      cases hf : f x with
      | none => rfl
      | some s =>
        obtain ⟨_, e, he, hk⟩ := h.all _ s hf
        exact absurd hk (hno e he)
    rw [hn]; exact hrun
  · obtain ⟨l, s, hl, hk2, hv, hf⟩ := h.only e0 he
    rw [hk] at hk2
    have hxl := T.inj _ _ hk2
    subst hxl
    rw [hf, hrun, hv]; rfl
/-- .. without. -/
theorem GMap.look1 (T : MapT k t vt dom kv vv zv) (h : GMap k dom kv vv w b n f) (x : K) (hx : dom x) :
    (Instr.lookup t (.map (some b)) (kv x) false).run Tryz.prog w = .ok ((f x).elim zv vv) w := by
  obtain ⟨es, clock, h⟩ := h
  obtain ⟨lx, hkey⟩ := T.lit x hx
  rcases fit_look false T.keyed T.und (T.zero w) h.hb h.fit hkey with ⟨hrun, hno, _⟩ | ⟨e0, y, he, hk, hrun, _⟩
  · have hn : f x = none := by
      cases hf : f x with
      | none => rfl
      | some s =>
        obtain ⟨_, e, he, hk⟩ := h.all _ s hf
        exact absurd hk (hno e he)
    rw [hn]; exact hrun
  · obtain ⟨l, s, hl, hk2, hv, hf⟩ := h.only e0 he
    rw [hk] at hk2
    have hxl := T.inj _ _ hk2
    subst hxl
    rw [hf, hrun, hv]; rfl
def putG [DecidableEq K] (f : K → Option V) (l : K) (s : V) : K → Option V := fun j => if j = l then some s else f j
/-- 'm[x] = s'. -/
theorem GMap.store [DecidableEq K] (T : MapT k t vt dom kv vv zv) (h : GMap k dom kv vv w b n f) (hn : n < 1000000) (l : K) (s : V) (hl : dom l) :
    ∃ w', (Instr.mapUpdate t (.map (some b)) (kv l) (vv s)).run Tryz.prog w = .ok () w' ∧ GMap k dom kv vv w' b (n + 1) (putG f l s) ∧ Only b w w' := by
  obtain ⟨es, clock, h⟩ := h
  obtain ⟨lx, hkey⟩ := T.lit l hl
  have hroom : es.size < maxLen := by have := h.size; unfold maxLen; omega
  obtain ⟨es', clock', hrun, F', hput, _, _, hwho⟩ := fit_store (R' := contG) T.keyed T.und h.hb h.fit hroom (fun _ _ _ _ hz => hz) hkey (show contG (vv s) = some (datG, []) from rfl)
  refine ⟨_, hrun, ⟨es', clock', heap_setBlock_same h.hb _, F', ?_, ?_, ?_⟩, ⟨rfl, rfl, rfl, by simp [setBlock], fun k _ hk => heap_setBlock_other h.hb _ hk⟩⟩
  · intro x hx
    rcases hwho x hx with ⟨hx1, hne⟩ | ⟨hk, hv⟩
    · obtain ⟨l2, s2, hl2, hk2, hv2, hf2⟩ := h.only x hx1
      refine ⟨l2, s2, hl2, hk2, hv2, ?_⟩
      unfold putG
      rw [if_neg (fun e => hne (by rw [hk2, e]))]
      exact hf2
    · exact ⟨l, s, hl, hk, hv, by unfold putG; rw [if_pos rfl]⟩
  · have hin : ∀ p, p ∈ putKey lx datG ((es.toList.map (rg Tryz.prog k contG)).foldr DataW.insert []) → ∃ x ∈ es'.toList, rg Tryz.prog k contG x = p := by
      intro p hp
      rw [← hput] at hp
      obtain ⟨x, hx, e⟩ := List.mem_map.1 ((sorted_perm _).mem_iff.1 hp)
      exact ⟨x, hx, e⟩
    have key_of : ∀ x ∈ es'.toList, ∀ kl d, rg Tryz.prog k contG x = (kl, d) → keyOf Tryz.prog k x.key = some kl := by
      intro x hx kl d e
      obtain ⟨y, hy⟩ := F'.reads x hx
      have h1 := rd_key hy
      rw [rg_of hy] at e
      rw [e] at h1; exact h1
    intro l2 s2 hf2
    unfold putG at hf2
    by_cases e : l2 = l
    · subst e
      obtain ⟨x, hx, e⟩ := hin (lx, datG) (by unfold putKey; exact mem_insert_iff.2 (.inl rfl))
      exact ⟨hl, x, hx, T.keyed.inj (key_of x hx _ _ e) hkey⟩
    · rw [if_neg e] at hf2
      obtain ⟨hd, x0, hx0, hk0⟩ := h.all l2 s2 hf2
      obtain ⟨lx2, hkey2⟩ := T.lit l2 hd
      obtain ⟨y0, hy0⟩ := h.fit.reads x0 hx0
      have hk1 := rd_key hy0
      rw [hk0, hkey2] at hk1
      have hk2 : y0.1 = lx2 := (Option.some.inj hk1).symm
      obtain ⟨x, hx, e3⟩ := hin y0 (by
        unfold putKey
        refine mem_insert_iff.2 (.inr (List.mem_filter.2 ⟨(sorted_perm _).mem_iff.2 (List.mem_map.2 ⟨x0, hx0, rg_of hy0⟩), ?_⟩))
        refine (notKey_iff (T.keyed.key hkey)).2 ?_
        rw [hk2]
        intro e4
        rw [e4] at hkey2
        exact e (T.inj _ _ (T.keyed.inj hkey2 hkey)))
      refine ⟨hd, x, hx, T.keyed.inj (key_of x hx y0.1 y0.2 e3) ?_⟩
      rw [hk2]; exact hkey2
  · have e1 : es'.size = ((es'.toList.map (rg Tryz.prog k contG)).foldr DataW.insert []).length := by rw [Go.length_sorted]; simp
    rw [e1, hput]
    unfold putKey
    rw [Go.length_insert]
    have e2 := List.length_filter_le (notKey lx) ((es.toList.map (rg Tryz.prog k contG)).foldr DataW.insert [])
    rw [Go.length_sorted] at e2
    have := h.size
    simp at e2
    omega
end
/-- A copy of a map. -/
theorem GMap.copy {K V : Type} {k : TypeId} {dom : K → Prop} {kv : K → Value} {vv : V → Value} {w w' : World} {n c : Nat} {f : K → Option V} {es : Array MapEntry} {clock b : Nat} (h : Gmm k dom kv vv w b es clock n f) (hc : w'.heap[c]? = some (.map es clock)) : GMap k dom kv vv w' c n f :=
  ⟨es, clock, hc, h.fit, h.only, h.all, h.size⟩
theorem laidOut : laidOutB Tryz.prog = true := by kernel_rfl
theorem wfI {z : Int} (hz : I64 z) : (Lit.int .i64 z).wf = true := by
  obtain ⟨h0, h1⟩ := hz
  simp [Lit.wf, IntKind.min, IntKind.max, IntKind.signed, IntKind.bits]; omega
theorem val_key {x y : Int} (hx : I64 x) (hy : I64 y) : ∃ l, keyOf Tryz.prog 36 (valV (x, y)) = some l := by
  have hk : Tryz.prog.keyType 36 = true := by kernel_rfl
  have hc : Tryz.prog.cellsOf 36 = 2 := by kernel_rfl
  have hf : (valV (x, y)).formed Tryz.prog 36 = true := by simp [Value.formed, Tryz.underlying36, hc]
  have hl : ∃ ls, Tryz.prog.keyLits (Tryz.prog.types.size + 1) 36 [.int .i64 x, .int .i64 y] = some ls := by
    obtain ⟨N, hN⟩ : ∃ N, Tryz.prog.types.size = N + 1 := ⟨Tryz.prog.types.size - 1, by kernel_rfl⟩
    rw [hN]
    have c3 : Tryz.prog.cellsOf 3 = 1 := by kernel_rfl
    have cK : Tryz.prog.cellsOf 34 = 1 := by kernel_rfl
    simp [Program.keyLits, Tryz.underlying36, Tryz.underlying34, Tryz.underlying3, hc, c3, cK, wfI hx, wfI hy]
  obtain ⟨ls, hl⟩ := hl
  refine ⟨.string (keyBytes ls), ?_⟩
  unfold keyOf
  rw [Tryz.underlying36]
  show (if (Tryz.prog.keyType 36 && (valV (x, y)).formed Tryz.prog 36) = true then _ else _) = _
  rw [if_pos (by rw [hk, hf]; rfl)]
  show Option.map _ (Tryz.prog.keyLits (Tryz.prog.types.size + 1) 36 [.int .i64 x, .int .i64 y]) = _
  rw [hl]; rfl
theorem keyedV : Keyed Tryz.prog 36 := Keyed.of_law (deep_law_laid laidOut (m := 2) (by omega) (by decide) (by kernel_rfl) (by kernel_rfl))
theorem valV_inj (x y : Int × Int) (h : valV x = valV y) : x = y := by
  injection h with h
  have h1 := congrArg Array.toList h
  simp at h1
  exact Prod.ext h1.1 h1.2
def domV (v : Int × Int) : Prop := I64 v.1 ∧ I64 v.2
end Go.Proofs.YthjjgpepgbfalaaGreatDoor
end
section
/-! The reader's nodes, in memory. -/
set_option maxRecDepth 20000
set_option linter.unusedSimpArgs false
namespace Go.Proofs.YthjjgpepgbfalaaGreatDoor
open Go.RowKit

def upd {α : Type} (S : Nat → α) (i : Nat) (x : α) : Nat → α := fun j => if j = i then x else S j
theorem upd_same {α : Type} (S : Nat → α) (i : Nat) (x : α) : upd S i x i = x := if_pos rfl
theorem upd_other {α : Type} (S : Nat → α) {i j : Nat} (x : α) (h : j ≠ i) : upd S i x j = S j := if_neg h
def ptrN (S : Nat → Nat) (j : Nat) : Value := .pointer (some ⟨S j, 0, none⟩)
def ptrsN (S : Nat → Nat) (l : List Nat) : List Value := l.map (ptrN S)
theorem ptrsN_get (S : Nat → Nat) (l : List Nat) (i j : Nat) (h : l[i]? = some j) : (ptrsN S l)[i]? = some (ptrN S j) := by unfold ptrsN; rw [List.getElem?_map, h]; rfl
theorem ptrsN_append (S : Nat → Nat) (l m : List Nat) : ptrsN S (l ++ m) = ptrsN S l ++ ptrsN S m := by unfold ptrsN; simp
theorem ptrsN_congr {S T : Nat → Nat} {l : List Nat} (h : ∀ j ∈ l, S j = T j) : ptrsN S l = ptrsN T l := by
  unfold ptrsN
  refine List.map_congr_left fun j hj => ?_
  unfold ptrN; rw [h j hj]
/-- A node's cells. -/
def ndC (S : Nat → Nat) (x : Nd) (v : Value) : Array Value := #[.int .i64 (x.t.k : Int), .int .i64 x.t.n, .string ⟨x.t.s.toArray⟩, .int .i64 (x.a : Int), v, .bool x.d, .pointer (x.sm.map fun j => ⟨S j, 0, none⟩), .int .i64 x.v.1, .int .i64 x.v.2]
theorem ndC_congr {S T : Nat → Nat} {x : Nd} {v : Value} (h : ∀ j, x.sm = some j → S j = T j) : ndC S x v = ndC T x v := by
  unfold ndC
  cases hs : x.sm with
  | none => rfl
  | some j => simp only [Option.map_some]; rw [h j hs]
structure TkOk (t : Lx.Tk) : Prop where
  k : t.k ≤ 16
  n : I64 t.n
  s : t.s.length ≤ 5000
theorem TkOk.zero : TkOk ⟨0, 0, []⟩ := ⟨by decide, by unfold I64; decide, by decide⟩
/-- Nodes in memory: node i in block S i, what lies in it in the row V i. -/
structure Nds (w : World) (S : Nat → Nat) (V : Nat → Value) (A : List Nd) : Prop where
  hd : ∀ i, i < A.length → w.heap[S i]? = some (.cells (ndC S (ndAt A i) (V i)) 74 (0, 0))
  row : ∀ i, i < A.length → w.ownsRow 0 56 1 (V i) (ndAt A i).is.length (ptrsN S (ndAt A i).is)
  inj : ∀ i j, i < A.length → j < A.length → S i = S j → i = j
  sep : ∀ i j k, i < A.length → j < A.length → (V i).ownBlock = some k → (V j).ownBlock = some k → i = j
  ord : Ord A
  len : ∀ i, i < A.length → (ndAt A i).is.length ≤ A.length
  tk : ∀ i, i < A.length → TkOk (ndAt A i).t ∧ (ndAt A i).a ≤ 100000 ∧ I64 (ndAt A i).v.1 ∧ I64 (ndAt A i).v.2
def footN (S : Nat → Nat) (V : Nat → Value) (n : Nat) : Nat → Prop := fun k => ∃ i, i < n ∧ (k = S i ∨ (V i).ownBlock = some k)
section
variable {w w' : World} {S : Nat → Nat} {V : Nat → Value} {A : List Nd}
theorem Nds.lt (h : Nds w S V A) : ∀ k, footN S V A.length k → k < w.heap.size := by
  rintro k ⟨i, hi, rfl | e⟩
  · exact lt_of_block (h.hd i hi)
  · exact own_lt (h.row i hi) e
theorem Nds.keep (h : Nds w S V A) (hb : ∀ k, footN S V A.length k → w'.heap[k]? = w.heap[k]?) : Nds w' S V A :=
  ⟨fun i hi => (hb _ ⟨i, hi, .inl rfl⟩).trans (h.hd i hi), fun i hi => own_other (h.row i hi) fun k e => hb k ⟨i, hi, .inr e⟩, h.inj, h.sep, h.ord, h.len, h.tk⟩
theorem Nds.below (h : Nds w S V A) (hb : Below w.heap.size w w') : Nds w' S V A := h.keep fun k hk => hb.block k (h.lt k hk)
theorem Nds.form (h : Nds w S V A) {i : Nat} (hi : i < A.length) : ∃ q c, V i = .slice q (ndAt A i).is.length c := own_form (h.row i hi)
/-- A node's block is no row's. -/
theorem Nds.ne (h : Nds w S V A) {i j k : Nat} (hi : i < A.length) (hj : j < A.length) (hk : (V j).ownBlock = some k) : S i ≠ k := by
  obtain ⟨cur, hc⟩ := own_head (h.row j hj) hk
  exact ne_of_ty (h.hd i hi) hc (by decide)
theorem Nds.cells (h : Nds w S V A) {i : Nat} (hi : i < A.length) :
    (w.cell? ⟨S i, 0, none⟩ = some (.int .i64 ((ndAt A i).t.k : Int)) ∧ w.cell? ⟨S i, 1, none⟩ = some (.int .i64 (ndAt A i).t.n) ∧ w.cell? ⟨S i, 2, none⟩ = some (.string ⟨(ndAt A i).t.s.toArray⟩) ∧ w.cell? ⟨S i, 3, none⟩ = some (.int .i64 ((ndAt A i).a : Int))) ∧
    (w.cell? ⟨S i, 4, none⟩ = some (V i) ∧ w.cell? ⟨S i, 5, none⟩ = some (.bool (ndAt A i).d) ∧ w.cell? ⟨S i, 6, none⟩ = some (.pointer ((ndAt A i).sm.map fun j => ⟨S j, 0, none⟩))) ∧
    w.cell? ⟨S i, 7, none⟩ = some (.int .i64 (ndAt A i).v.1) ∧ w.cell? ⟨S i, 8, none⟩ = some (.int .i64 (ndAt A i).v.2) ∧ ∀ j, w.frozen? ⟨S i, j, none⟩ = false := by
  have hh := h.hd i hi
  refine ⟨⟨?_, ?_, ?_, ?_⟩, ⟨?_, ?_, ?_⟩, ?_, ?_, fun j => frozen_of_row w _ j _ _ hh⟩ <;> (rw [cell_of_row w _ _ _ _ _ hh]; rfl)
/-- The j-th of what lies in a node. -/
theorem Nds.at' (h : Nds w S V A) {i j n : Nat} (hi : i < A.length) (hn : (ndAt A i).is[j]? = some n) : ∃ b c, V i = .slice (some ⟨b, 0, none⟩) (ndAt A i).is.length c ∧ w.cell? ⟨b, j, none⟩ = some (ptrN S n) := by
  have hj : j < (ndAt A i).is.length := (List.getElem?_eq_some_iff.1 hn).1
  obtain ⟨b, c, e⟩ := own_some (h.row i hi) (by omega)
  have hr := h.row i hi
  rw [e] at hr
  exact ⟨b, c, e, (hr.cellAt j (by omega)).trans (ptrsN_get S _ j n hn)⟩
/-- One node changed. -/
theorem Nds.put (h : Nds w S V A) {i : Nat} (hi : i < A.length) (x : Nd) (v : Value)
    (hx : w'.heap[S i]? = some (.cells (ndC S x v) 74 (0, 0))) (hr : w'.ownsRow 0 56 1 v x.is.length (ptrsN S x.is))
    (hb : ∀ k, footN S V A.length k → k ≠ S i → (V i).ownBlock ≠ some k → w'.heap[k]? = w.heap[k]?) (hv : ∀ k, v.ownBlock = some k → (V i).ownBlock = some k ∨ ¬ footN S V A.length k)
    (ho : (∀ j ∈ x.is, i < j ∧ j < A.length) ∧ ∀ j, x.sm = some j → j < A.length) (hl : x.is.length ≤ A.length) (ht : TkOk x.t ∧ x.a ≤ 100000 ∧ I64 x.v.1 ∧ I64 x.v.2) : Nds w' S (upd V i v) (A.set i x) := by
  have hat := ndAt_set hi x
  have hlen : (A.set i x).length = A.length := List.length_set ..
  have huv : ∀ j k, j < A.length → (upd V i v j).ownBlock = some k → j = i ∨ (V j).ownBlock = some k := fun j k hj e => by
    by_cases e2 : j = i
    · exact .inl e2
    · rw [upd_other _ _ e2] at e; exact .inr e
  refine ⟨fun j hj => ?_, fun j hj => ?_, fun j k hj hk => h.inj j k (by omega) (by omega), fun j k b hj hk e1 e2 => ?_, fun j hj => ?_, fun j hj => ?_, fun j hj => ?_⟩
  · rw [hat]
    by_cases e : j = i
    · subst e; rw [if_pos rfl, upd_same]; exact hx
    · rw [if_neg e, upd_other _ _ e]
      refine (hb _ ⟨j, by omega, .inl rfl⟩ (fun e2 => e (h.inj _ _ (by omega) hi e2)) (fun e2 => h.ne (by omega) hi e2 rfl)).trans (h.hd j (by omega))
  · rw [hat]
    by_cases e : j = i
    · subst e; rw [if_pos rfl, upd_same]; exact hr
    · rw [if_neg e, upd_other _ _ e]
      exact own_other (h.row j (by omega)) fun k hk => hb k ⟨j, by omega, .inr hk⟩ (fun e2 => h.ne hi (by omega) hk e2.symm) (fun e2 => e (h.sep _ _ _ (by omega) hi hk e2))
  · have hj2 : j < A.length := by omega
    have hk2 : k < A.length := by omega
    by_cases ej : j = i <;> by_cases ek : k = i
    · omega
    · subst ej
      rw [upd_same] at e1
      rw [upd_other _ _ ek] at e2
      rcases hv b e1 with h1 | h1
      · exact (h.sep k j b hk2 hj2 e2 h1).symm
      · exact absurd ⟨k, hk2, .inr e2⟩ h1
    · subst ek
      rw [upd_same] at e2
      rw [upd_other _ _ ej] at e1
      rcases hv b e2 with h1 | h1
      · exact h.sep j k b hj2 hk2 e1 h1
      · exact absurd ⟨j, hj2, .inr e1⟩ h1
    · rw [upd_other _ _ ej] at e1
      rw [upd_other _ _ ek] at e2
      exact h.sep j k b hj2 hk2 e1 e2
  · rw [hat, hlen]
    split
    · rename_i e; subst e; exact ho
    · exact h.ord j (by omega)
  · rw [hat, hlen]
    split
    · exact hl
    · exact h.len j (by omega)
  · rw [hat]
    split
    · exact ht
    · exact h.tk j (by omega)
/-- One node more, in which nothing lies. -/
theorem Nds.snoc (h : Nds w S V A) (x : Nd) (b : Nat) (h0 : x.is = []) (h1 : x.sm = none) (hx : w'.heap[b]? = some (.cells (ndC S x (.slice none 0 0)) 74 (0, 0))) (hn : ¬ footN S V A.length b)
    (hb : ∀ k, footN S V A.length k → w'.heap[k]? = w.heap[k]?) (ht : TkOk x.t ∧ x.a ≤ 100000 ∧ I64 x.v.1 ∧ I64 x.v.2) : Nds w' (upd S A.length b) (upd V A.length (.slice none 0 0)) (A ++ [x]) := by
  have hlen : (A ++ [x]).length = A.length + 1 := by simp
  have hat : ∀ j, j < A.length + 1 → ndAt (A ++ [x]) j = if j = A.length then x else ndAt A j := fun j hj => by
    unfold ndAt
    rw [List.getD_eq_getElem?_getD, List.getD_eq_getElem?_getD]
    by_cases e : j = A.length
    · subst e; rw [if_pos rfl, List.getElem?_append_right (Nat.le_refl _)]; simp
    · rw [if_neg e, List.getElem?_append_left (by omega)]
  have hS : ∀ j, j < A.length → S j = upd S A.length b j := fun j hj => (upd_other S b (by omega)).symm
  refine ⟨fun j hj => ?_, fun j hj => ?_, fun j k hj hk e => ?_, fun j k c hj hk e1 e2 => ?_, fun j hj => ?_, fun j hj => ?_, fun j hj => ?_⟩
  · rw [hlen] at hj
    rw [hat j hj]
    by_cases e : j = A.length
    · subst e
      rw [if_pos rfl, upd_same, upd_same, ← ndC_congr (S := S) fun j hj => by rw [h1] at hj; cases hj]; exact hx
    · rw [if_neg e, upd_other _ _ e, upd_other _ _ e, ← ndC_congr (S := S) fun k hk => hS k ((h.ord j (by omega)).2 k hk)]
      exact (hb _ ⟨j, by omega, .inl rfl⟩).trans (h.hd j (by omega))
  · rw [hlen] at hj
    rw [hat j hj]
    by_cases e : j = A.length
    · subst e
      rw [if_pos rfl, upd_same, h0]; exact World.ownsRow_nil _ _ _ _
    · rw [if_neg e, upd_other _ _ e, ← ptrsN_congr (S := S) fun k hk => hS k ((h.ord j (by omega)).1 k hk).2]
      exact own_other (h.row j (by omega)) fun k hk => hb k ⟨j, by omega, .inr hk⟩
  · rw [hlen] at hj hk
    by_cases ej : j = A.length <;> by_cases ek : k = A.length
    · omega
    · subst ej
      rw [upd_same, upd_other _ _ ek] at e
      exact absurd ⟨k, by omega, .inl e⟩ hn
    · subst ek
      rw [upd_same, upd_other _ _ ej] at e
      exact absurd ⟨j, by omega, .inl e.symm⟩ hn
    · rw [upd_other _ _ ej, upd_other _ _ ek] at e
      exact h.inj j k (by omega) (by omega) e
  · rw [hlen] at hj hk
    have hj2 : j ≠ A.length := fun e => by rw [e, upd_same] at e1; simp [Value.ownBlock] at e1
    have hk2 : k ≠ A.length := fun e => by rw [e, upd_same] at e2; simp [Value.ownBlock] at e2
    rw [upd_other _ _ hj2] at e1
    rw [upd_other _ _ hk2] at e2
    exact h.sep j k c (by omega) (by omega) e1 e2
  · rw [hlen] at hj ⊢
    rw [hat j hj]
    split
    · rw [h0, h1]
      refine ⟨fun k hk => ?_, fun k hk => ?_⟩
      · cases hk
      · cases hk
    · obtain ⟨a, c⟩ := h.ord j (by omega)
      exact ⟨fun k hk => ⟨(a k hk).1, by have := (a k hk).2; omega⟩, fun k hk => by have := c k hk; omega⟩
  · rw [hlen] at hj ⊢
    rw [hat j hj]
    split
    · rw [h0]; simp
    · have := h.len j (by omega); omega
  · rw [hlen] at hj
    rw [hat j hj]
    split
    · exact ht
    · exact h.tk j (by omega)
theorem footN_upd {v : Value} {i n : Nat} (hv : ∀ k, v.ownBlock = some k → (V i).ownBlock = some k ∨ w.heap.size ≤ k) : ∀ k, footN S (upd V i v) n k → footN S V n k ∨ w.heap.size ≤ k := by
  rintro k ⟨j, hj, rfl | e⟩
  · exact .inl ⟨j, hj, .inl rfl⟩
  · by_cases e2 : j = i
    · subst e2
      rw [upd_same] at e
      exact (hv k e).imp (fun h => ⟨j, hj, .inr h⟩) id
    · rw [upd_other _ _ e2] at e
      exact .inl ⟨j, hj, .inr e⟩
theorem footN_snoc {b n : Nat} (hb : w.heap.size ≤ b) : ∀ k, footN (upd S n b) (upd V n (.slice none 0 0)) (n + 1) k → footN S V n k ∨ w.heap.size ≤ k := by
  rintro k ⟨j, hj, e⟩
  by_cases e2 : j = n
  · subst e2
    rw [upd_same, upd_same] at e
    rcases e with rfl | e
    · exact .inr hb
    · simp [Value.ownBlock] at e
  · rw [upd_other _ _ e2, upd_other _ _ e2] at e
    exact .inl ⟨j, by omega, e⟩
end
end Go.Proofs.YthjjgpepgbfalaaGreatDoor
end
