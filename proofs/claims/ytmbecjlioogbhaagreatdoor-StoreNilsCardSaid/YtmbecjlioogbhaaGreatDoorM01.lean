/- Texts SMdl to Cat of this seat, laid into one. -/
import Derived.WalkKit
import Derived.Laws.Rows
import Derived.WalkSmall
import Derived.Deep.Cut
import Derived.Deep.CutBlock
import Derived.Deep.DeepCutAuto
import Derived.Deep.AppendLies
import Derived.Lib.AppendZerosOnto
import Derived.Lib.AppendStr
import Derived.BigQuiet
import Derived.Deep.RegionWith
import Derived.Laws.AppendOwnNone
import Derived.Test.YtmbecjlioogbhaaGreatDoorM00
set_option linter.unusedVariables false
set_option linter.unusedSimpArgs false
set_option linter.constructorNameAsVariable false
section
/-! A page as a list of slots, and each call as a function on it. -/
set_option linter.unusedSimpArgs false

namespace Go.Proofs.YtmbecjlioogbhaaGreatDoor.Sl
open Go.RowKit

/-- A slot: bare, or with a record. -/
abbrev Sl := Option ByteArray
def recOf (o : Sl) : ByteArray := o.getD ⟨#[]⟩
def sz (o : Sl) : Nat := (recOf o).size
def tot (l : List Sl) : Nat := (l.map sz).sum
def need (l : List Sl) : Nat := 1 + 2 * l.length + tot l
def bareI (l : List Sl) : Nat := l.findIdx (fun o => o.isNone)
def withL (l : List Sl) (i : Nat) (o : Sl) : List Sl := if i = l.length then l ++ [o] else l.set i o
def slot (l : List Sl) (i : Nat) : Sl := l.getD i none
def addFull (l : List Sl) (r : ByteArray) : Bool := decide (64 < (withL l (bareI l) (some r)).length) || decide (512 < need (withL l (bareI l) (some r)))
def addL (l : List Sl) (r : ByteArray) : List Sl := if 480 < r.size then l else if addFull l r = true then l else withL l (bareI l) (some r)
def addN (l : List Sl) (r : ByteArray) : Nat := if 480 < r.size then 0 else if addFull l r = true then 0 else bareI l
def addE (l : List Sl) (r : ByteArray) : Nat := if 480 < r.size then 2 else if addFull l r = true then 8 else 0
def fullI (l : List Sl) (i : Int) : Bool := decide (0 ≤ i) && decide (i < (l.length : Int)) && (slot l i.toNat).isSome
def putFull (l : List Sl) (i : Int) (r : ByteArray) : Bool := decide (512 < need (l.set i.toNat (some r)))
def putL (l : List Sl) (i : Int) (r : ByteArray) : List Sl := if fullI l i = false then l else if 480 < r.size then l else if putFull l i r = true then l else l.set i.toNat (some r)
def putE (l : List Sl) (i : Int) (r : ByteArray) : Nat := if fullI l i = false then 5 else if 480 < r.size then 2 else if putFull l i r = true then 8 else 0
def trim (l : List Sl) : List Sl := (l.reverse.dropWhile fun o => o.isNone).reverse
def dropL (l : List Sl) (i : Int) : List Sl := if fullI l i = false then l else trim (l.set i.toNat none)
def left (l : List Sl) : Int := 512 - (need l : Int)
def room0 (l : List Sl) : Int := left l - if bareI l = l.length then 2 else 0
def room (l : List Sl) : Int := if bareI l = 64 ∨ room0 l < 0 then -1 else min (room0 l) 480
/-- What holds of a page. -/
structure Okp (l : List Sl) : Prop where
  len : l.length ≤ 64
  need : need l ≤ 512
  last : l = [] ∨ (slot l (l.length - 1)).isSome = true
  sz : ∀ o ∈ l, sz o ≤ 480

theorem sz_none : sz none = 0 := rfl
theorem sz_some (r : ByteArray) : sz (some r) = r.size := rfl
theorem slot_lt {l : List Sl} {i : Nat} (h : i < l.length) : l[i]? = some (slot l i) := by
  unfold slot; rw [List.getD_eq_getElem?_getD, List.getElem?_eq_getElem h]; rfl
theorem slot_ge {l : List Sl} {i : Nat} (h : l.length ≤ i) : slot l i = none := by
  unfold slot; rw [List.getD_eq_getElem?_getD, List.getElem?_eq_none h]; rfl
theorem slot_set {l : List Sl} {i : Nat} (h : i < l.length) (o : Sl) (j : Nat) : slot (l.set i o) j = if i = j then o else slot l j := by
  unfold slot
  rw [List.getD_eq_getElem?_getD, List.getD_eq_getElem?_getD, List.getElem?_set]
  split
  · rename_i e; subst e; simp [h]
  · rfl
theorem slot_snoc (l : List Sl) (o : Sl) (j : Nat) : slot (l ++ [o]) j = if j = l.length then o else slot l j := by
  unfold slot
  rw [List.getD_eq_getElem?_getD, List.getD_eq_getElem?_getD]
  rcases Nat.lt_trichotomy j l.length with h | h | h
  · rw [if_neg (by omega), List.getElem?_append_left h]
  · rw [if_pos h, h, List.getElem?_append_right (Nat.le_refl _)]; simp
  · rw [if_neg (by omega), List.getElem?_append_right (by omega), List.getElem?_eq_none (by simp; omega), List.getElem?_eq_none (by omega)]
theorem slot_mem {l : List Sl} {i : Nat} (h : i < l.length) : slot l i ∈ l := List.mem_of_getElem? (slot_lt h)
theorem tot_append (a b : List Sl) : tot (a ++ b) = tot a + tot b := by unfold tot; rw [List.map_append, List.sum_append]
theorem tot_one (o : Sl) : tot [o] = sz o := by simp [tot]
theorem tot_take_succ {l : List Sl} {k : Nat} (h : k < l.length) : tot (l.take (k + 1)) = tot (l.take k) + sz (slot l k) := by
  rw [List.take_succ_eq_append_getElem h, tot_append, tot_one]
  congr 2
  have := slot_lt h
  rw [List.getElem?_eq_getElem h] at this
  exact Option.some.inj this
theorem tot_split {l : List Sl} {k : Nat} (h : k < l.length) : tot l = tot (l.take k) + sz (slot l k) + tot (l.drop (k + 1)) := by
  rw [← tot_take_succ h, ← tot_append, List.take_append_drop]
theorem tot_set {l : List Sl} {k : Nat} (h : k < l.length) (o : Sl) : tot (l.set k o) + sz (slot l k) = tot l + sz o := by
  have h1 := tot_split (l := l.set k o) (k := k) (by simpa using h)
  have h2 := tot_split h
  rw [slot_set h, if_pos rfl, List.take_set_of_le (Nat.le_refl _), List.drop_set_of_lt (by omega)] at h1
  omega
theorem tot_take_le (l : List Sl) (k : Nat) : tot (l.take k) ≤ tot l := by
  have := tot_append (l.take k) (l.drop k)
  rw [List.take_append_drop] at this
  omega
theorem bareI_le (l : List Sl) : bareI l ≤ l.length := List.findIdx_le_length
theorem bareI_lt {l : List Sl} (h : bareI l < l.length) : slot l (bareI l) = none := by
  have h1 := List.findIdx_getElem (w := h)
  have h2 := slot_lt h
  rw [List.getElem?_eq_getElem h] at h2
  rw [← Option.some.inj h2]
  unfold bareI at h1 ⊢
  simpa using h1
theorem bareI_no {l : List Sl} {j : Nat} (h : j < bareI l) : (slot l j).isSome = true := by
  have hj : j < l.length := Nat.lt_of_lt_of_le h (bareI_le l)
  have h1 := List.not_of_lt_findIdx h
  have h2 := slot_lt hj
  rw [List.getElem?_eq_getElem hj] at h2
  rw [← Option.some.inj h2]
  cases e : l[j] with
  | none => rw [e] at h1; simp at h1
  | some r => rfl
theorem bareI_eq {l : List Sl} {i : Nat} (h : i ≤ l.length) (h1 : ∀ j, j < i → (slot l j).isSome = true) (h2 : i < l.length → slot l i = none) : bareI l = i := by
  rcases Nat.lt_trichotomy (bareI l) i with h3 | h3 | h3
  · have := h1 _ h3
    rw [bareI_lt (by omega)] at this; cases this
  · exact h3
  · have := bareI_no h3
    rw [h2 (Nat.lt_of_lt_of_le h3 (bareI_le l))] at this; cases this

theorem withL_len {l : List Sl} {i : Nat} (h : i ≤ l.length) (o : Sl) : (withL l i o).length = if i = l.length then l.length + 1 else l.length := by
  unfold withL; split <;> simp
theorem withL_need {l : List Sl} (r : ByteArray) : need (withL l (bareI l) (some r)) = need l + r.size + if bareI l = l.length then 2 else 0 := by
  unfold withL need
  split
  · rw [List.length_append, tot_append, tot_one, sz_some]; simp; omega
  · rename_i h
    have h1 : bareI l < l.length := by have := bareI_le l; omega
    have h2 := tot_set h1 (some r)
    rw [bareI_lt h1, sz_none, sz_some] at h2
    rw [List.length_set]; omega
theorem withL_slot {l : List Sl} {i : Nat} (h : i ≤ l.length) (o : Sl) (j : Nat) : slot (withL l i o) j = if j = i then o else slot l j := by
  unfold withL
  split
  · rename_i e; rw [slot_snoc, e]
  · rw [slot_set (by omega)]; split <;> rename_i h1 <;> split <;> rename_i h2 <;> first | rfl | (exfalso; omega)
/-- What Room tells is whether a record can be added. -/
theorem room_full {l : List Sl} (h : l.length ≤ 64) (r : ByteArray) (hr : r.size ≤ 480) : addFull l r = decide (room l < (r.size : Int)) := by
  unfold addFull room room0 left
  rw [withL_need, withL_len (bareI_le l), ← Bool.decide_or, decide_eq_decide]
  have := bareI_le l
  split <;> (repeat' split) <;> omega
theorem trim_none (l : List Sl) : trim (l ++ [none]) = trim l := by unfold trim; rw [List.reverse_append]; rfl
theorem trim_some (l : List Sl) (r : ByteArray) : trim (l ++ [some r]) = l ++ [some r] := by
  unfold trim; rw [List.reverse_append]
  simp
theorem take_slot {l : List Sl} {k : Nat} (h : k < l.length) : l.take (k + 1) = l.take k ++ [slot l k] := by
  rw [List.take_succ_eq_append_getElem h]
  congr 2
  have := slot_lt h
  rw [List.getElem?_eq_getElem h] at this
  exact Option.some.inj this
/-- Of a list of which all from k on is bare. -/
theorem trim_take {l : List Sl} {k : Nat} (h : k ≤ l.length) (hb : ∀ j, k ≤ j → j < l.length → slot l j = none) : trim l = trim (l.take k) := by
  obtain ⟨d, hd⟩ : ∃ d, k + d = l.length := ⟨l.length - k, by omega⟩
  induction d generalizing k with
  | zero => rw [List.take_of_length_le (by omega)]
  | succ d ih =>
    rw [ih (k := k + 1) (by omega) (fun j h1 h2 => hb j (by omega) h2) (by omega), take_slot (by omega), hb k (Nat.le_refl _) (by omega), trim_none]
theorem trim_stop {l : List Sl} {k : Nat} (h : k ≤ l.length) (h0 : 0 < k → (slot l (k - 1)).isSome = true) : trim (l.take k) = l.take k := by
  rcases Nat.eq_zero_or_pos k with e | e
  · subst e; rfl
  · obtain ⟨r, hr⟩ := Option.isSome_iff_exists.1 (h0 e)
    have := take_slot (l := l) (k := k - 1) (by omega)
    rw [show k - 1 + 1 = k by omega, hr] at this
    rw [this, trim_some]
theorem trim_is (l : List Sl) : ∃ k, k ≤ l.length ∧ trim l = l.take k ∧ (0 < k → (slot l (k - 1)).isSome = true) ∧ ∀ j, k ≤ j → slot l j = none := by
  suffices h : ∀ k, k ≤ l.length → (∀ j, k ≤ j → slot l j = none) → ∃ k, k ≤ l.length ∧ trim l = l.take k ∧ (0 < k → (slot l (k - 1)).isSome = true) ∧ ∀ j, k ≤ j → slot l j = none from h l.length (Nat.le_refl _) (fun j hj => slot_ge hj)
  intro k
  induction k with
  | zero => intro _ hj; exact ⟨0, Nat.zero_le _, by rw [trim_take (Nat.zero_le _) (fun j h1 _ => hj j h1)]; rfl, fun h => absurd h (Nat.lt_irrefl 0), hj⟩
  | succ k ih =>
    intro hk hj
    cases e : slot l k with
    | none => exact ih (by omega) (fun j h => by rcases Nat.lt_or_ge k j with h1 | h1
                                                 · exact hj j h1
                                                 · obtain rfl : j = k := by omega
                                                   exact e)
    | some r =>
      refine ⟨k + 1, hk, ?_, fun _ => by simp [e], hj⟩
      rw [trim_take hk (fun j h1 _ => hj j h1), trim_stop hk (fun _ => by simp [e])]
theorem trim_slot (l : List Sl) (j : Nat) : slot (trim l) j = slot l j := by
  obtain ⟨k, hk, e, _, hb⟩ := trim_is l
  rw [e]
  rcases Nat.lt_or_ge j k with h | h
  · unfold slot; rw [List.getD_eq_getElem?_getD, List.getD_eq_getElem?_getD, List.getElem?_take_of_lt h]
  · rw [hb j h, slot_ge (by rw [List.length_take]; omega)]
theorem Okp.nil_ : Okp [] := ⟨by decide, by decide, .inl rfl, by simp⟩
theorem Okp.left {l : List Sl} (h : Okp l) : 0 ≤ left l := by have := h.need; unfold Go.Proofs.YtmbecjlioogbhaaGreatDoor.Sl.left; omega
theorem Okp.szs {l : List Sl} (h : Okp l) (i : Nat) : Go.Proofs.YtmbecjlioogbhaaGreatDoor.Sl.sz (slot l i) ≤ 480 := by
  rcases Nat.lt_or_ge i l.length with h1 | h1
  · exact h.sz _ (slot_mem h1)
  · rw [slot_ge h1]; decide
theorem okp_of {l : List Sl} (h1 : l.length ≤ 64) (h2 : Go.Proofs.YtmbecjlioogbhaaGreatDoor.Sl.need l ≤ 512) (h3 : l = [] ∨ (slot l (l.length - 1)).isSome = true) (h4 : ∀ i, i < l.length → Go.Proofs.YtmbecjlioogbhaaGreatDoor.Sl.sz (slot l i) ≤ 480) : Okp l :=
  ⟨h1, h2, h3, fun o ho => by
    obtain ⟨i, hi, e⟩ := List.getElem_of_mem ho
    have := slot_lt hi
    rw [List.getElem?_eq_getElem hi, e] at this
    rw [Option.some.inj this]; exact h4 i hi⟩
theorem Okp.add {l : List Sl} (h : Okp l) (r : ByteArray) : Okp (addL l r) := by
  unfold addL
  split
  · exact h
  · rename_i hr
    split
    · exact h
    · rename_i hf
      unfold addFull at hf
      simp only [Bool.or_eq_true, decide_eq_true_eq, not_or, Nat.not_lt] at hf
      refine okp_of hf.1 hf.2 (.inr ?_) (fun i _ => ?_)
      · rw [withL_slot (bareI_le l)]
        split
        · rfl
        · rename_i hne
          rw [withL_len (bareI_le l)] at hne ⊢
          split at hne
          · exfalso; omega
          · rename_i h2
            rw [if_neg h2]
            rcases h.last with h3 | h3
            · subst h3; exact absurd rfl h2
            · exact h3
      · rw [withL_slot (bareI_le l)]
        split
        · rw [sz_some]; omega
        · exact h.szs i
theorem fullI_lt {l : List Sl} {i : Int} (h : fullI l i = true) : ∃ k : Nat, i = (k : Int) ∧ k < l.length ∧ (slot l k).isSome = true := by
  unfold fullI at h
  simp only [Bool.and_eq_true, decide_eq_true_eq] at h
  exact ⟨i.toNat, by omega, by omega, h.2⟩
theorem fullI_nat (l : List Sl) (k : Nat) : fullI l (k : Int) = (slot l k).isSome := by
  unfold fullI
  rw [Int.toNat_natCast]
  rcases Nat.lt_or_ge k l.length with h | h
  · rw [decide_eq_true (by omega), decide_eq_true (by omega)]; rfl
  · rw [slot_ge h]; simp
theorem Okp.put {l : List Sl} (h : Okp l) (i : Int) (r : ByteArray) : Okp (putL l i r) := by
  unfold putL
  split
  · exact h
  · rename_i hi
    obtain ⟨k, rfl, hk, hs⟩ := fullI_lt (by simpa using hi)
    split
    · exact h
    · rename_i hr
      split
      · exact h
      · rename_i hf
        unfold putFull at hf
        rw [Int.toNat_natCast] at hf ⊢
        simp only [decide_eq_true_eq, Nat.not_lt] at hf
        refine okp_of (by rw [List.length_set]; exact h.len) hf (.inr ?_) (fun j _ => ?_)
        · rw [List.length_set, slot_set hk]
          split
          · rfl
          · exact h.last.resolve_left (fun e => by subst e; simp at hk)
        · rw [slot_set hk]
          split
          · rw [sz_some]; omega
          · exact h.szs j
theorem Okp.drop {l : List Sl} (h : Okp l) (i : Int) : Okp (dropL l i) := by
  unfold dropL
  split
  · exact h
  · rename_i hi
    obtain ⟨k, rfl, hk, hs⟩ := fullI_lt (by simpa using hi)
    rw [Int.toNat_natCast]
    obtain ⟨m, hm, e, hl, hb⟩ := trim_is (l.set k none)
    have h1 := tot_take_le (l.set k none) m
    have h2 := tot_set hk none
    rw [sz_none] at h2
    have h3 := h.need
    have h4 := h.len
    rw [List.length_set] at hm
    refine okp_of (by rw [e, List.length_take, List.length_set]; omega) (by unfold Go.Proofs.YtmbecjlioogbhaaGreatDoor.Sl.need at h3 ⊢; rw [e, List.length_take, List.length_set]; omega) ?_ (fun j _ => ?_)
    · rcases Nat.eq_zero_or_pos m with h5 | h5
      · left; rw [e, h5]; rfl
      · right
        rw [trim_slot, e, List.length_take, List.length_set, Nat.min_eq_left hm]
        exact hl h5
    · rw [trim_slot, slot_set hk]
      split
      · decide
      · exact h.szs j
/-- A slot's cells. -/
def two (o : Sl) : List Value := [.bool o.isSome, .string (recOf o)]
def flat (l : List Sl) : List Value := l.flatMap two
theorem flat_append (a b : List Sl) : flat (a ++ b) = flat a ++ flat b := by unfold flat; rw [List.flatMap_append]
theorem flat_one (o : Sl) : flat [o] = two o := by simp [flat]
theorem flat_cons (o : Sl) (l : List Sl) : flat (o :: l) = two o ++ flat l := rfl
theorem flat_get (l : List Sl) (k : Nat) (h : k < l.length) : (flat l)[k * 2]? = some (.bool (slot l k).isSome) ∧ (flat l)[k * 2 + 1]? = some (.string (recOf (slot l k))) := by
  induction l generalizing k with
  | nil => cases h
  | cons a l ih =>
    cases k with
    | zero => exact ⟨rfl, rfl⟩
    | succ k =>
      have h2 := ih k (by simpa using h)
      have hl : (two a).length = 2 := rfl
      rw [flat_cons, List.getElem?_append_right (by rw [hl]; omega), List.getElem?_append_right (by rw [hl]; omega)]
      rw [hl, show (k + 1) * 2 - 2 = k * 2 by omega, show (k + 1) * 2 + 1 - 2 = k * 2 + 1 by omega]
      exact h2
theorem flat_set (l : List Sl) (k : Nat) (o : Sl) (h : k < l.length) : (((flat l).set (k * 2) (.bool o.isSome)).set (k * 2 + 1) (.string (recOf o))) = flat (l.set k o) := by
  induction l generalizing k with
  | nil => cases h
  | cons a l ih =>
    cases k with
    | zero => rfl
    | succ k =>
      have h2 := ih k (by simpa using h)
      have e1 : (k + 1) * 2 = k * 2 + 1 + 1 := by omega
      rw [e1]
      exact congrArg (fun z => Value.bool (Option.isSome a) :: Value.string (recOf a) :: z) h2
end Go.Proofs.YtmbecjlioogbhaaGreatDoor.Sl
end
section
/-! A page in memory; what a call on it may change. -/
set_option linter.unusedSimpArgs false
namespace Go.Proofs.YtmbecjlioogbhaaGreatDoor.Sl
open Go.RowKit

/-- What a call on a page may change: its own blocks. -/
structure Chg (F F' : List Nat) (w w' : World) : Prop where
  os : w'.os = w.os
  tape : w'.tape = w.tape
  output : w'.output = w.output
  size : w.heap.size ≤ w'.heap.size
  block : ∀ k, k < w.heap.size → k ∉ F → w'.heap[k]? = w.heap[k]?
  fresh : ∀ k ∈ F', k ∈ F ∨ w.heap.size ≤ k
theorem Chg.refl (F : List Nat) (w : World) : Chg F F w w := ⟨rfl, rfl, rfl, Nat.le_refl _, fun _ _ _ => rfl, fun _ h => .inl h⟩
theorem Chg.trans {F F' F2 : List Nat} {a b c : World} (h : Chg F F' a b) (k : Chg F' F2 b c) : Chg F F2 a c :=
  ⟨k.os.trans h.os, k.tape.trans h.tape, k.output.trans h.output, Nat.le_trans h.size k.size,
   fun i hi hF => (k.block i (Nat.lt_of_lt_of_le hi h.size) (fun e => (h.fresh i e).elim hF (fun h2 => by omega))).trans (h.block i hi hF),
   fun i hi => (k.fresh i hi).elim (fun e => h.fresh i e) (fun e => .inr (Nat.le_trans h.size e))⟩
theorem Chg.of_below {F : List Nat} {w w' : World} (h : Below w.heap.size w w') : Chg F F w w' := ⟨h.os, h.tape, h.output, h.size, fun k hk _ => h.block k hk, fun _ h => .inl h⟩
theorem Chg.below {F F' : List Nat} {B : Nat} {a w w' : World} (h : Chg F F' w w') (hb : Below B a w) (hB : B ≤ w.heap.size) (hF : ∀ k ∈ F, B ≤ k) : Below B a w' :=
  hb.trans ⟨h.os, h.tape, h.output, h.size, fun k hk => h.block k (by omega) (fun e => by have := hF k e; omega)⟩
theorem Chg.high {F F' : List Nat} {B : Nat} {w w' : World} (h : Chg F F' w w') (hB : B ≤ w.heap.size) (hF : ∀ k ∈ F, B ≤ k) : ∀ k ∈ F', B ≤ k := fun k hk => (h.fresh k hk).elim (hF k) (fun e => by omega)
theorem Chg.drew {F F' : List Nat} {w w' : World} (h : Chg F F' w w') : Chg F F' w w'.drew := ⟨h.os, h.tape, h.output, h.size, h.block, h.fresh⟩
theorem Chg.setCell {F : List Nat} {g i : Nat} (hg : g ∈ F) (v : Value) (w : World) : Chg F F w (w.setCell ⟨g, i, none⟩ v) :=
  have h := (Below.refl 0 w).setCell (p := ⟨g, i, none⟩) (Nat.zero_le _) v
  ⟨h.os, h.tape, h.output, h.size, fun k _ hF => Below.heap_setCell w _ v k (fun e => hF (by rw [e]; exact hg)), fun _ h => .inl h⟩
theorem Chg.more {F F' G : List Nat} {w w' : World} (h : Chg F F' w w') (hF : ∀ k ∈ F, k ∈ G) (_hF' : ∀ k ∈ F', k ∈ G) : Chg G G w w' :=
  ⟨h.os, h.tape, h.output, h.size, fun k hk hn => h.block k hk (fun e => hn (hF k e)), fun _ h => .inl h⟩
/-- Blocks of a page hold no bytes, no strings, and none of the document's slots. -/
def Typed (w : World) (F : List Nat) : Prop := ∀ k ∈ F, ∃ cs t fr, w.heap[k]? = some (.cells cs t fr) ∧ (t = 214 ∨ t = 216)
/-- A block of another type. -/
theorem Chg.keep {F F' : List Nat} {w w' : World} (h : Chg F F' w w') (hT : Typed w F) {b t : Nat} {cs : Array Value} {fr : Nat × Nat} (hb : w.heap[b]? = some (.cells cs t fr)) (ht : t ≠ 214 ∧ t ≠ 216) : w'.heap[b]? = some (.cells cs t fr) := by
  rw [h.block b (lt_of_block hb) (fun e => by
    obtain ⟨cs2, t2, fr2, h2, h3⟩ := hT b e
    rw [hb] at h2
    cases h2
    exact h3.elim ht.1 ht.2), hb]
theorem own_head {w : World} {base E m n : Nat} {v : Value} {xs : List Value} {g : Nat} (h : w.ownsRow base E m v n xs) (hg : v.ownBlock = some g) : ∃ cur, w.heap[g]? = some (.cells cur E (0, 0)) := by
  rcases h.2 with ⟨rfl, _⟩ | ⟨g', cap, cur, rfl, _, hh, _⟩
  · simp [Value.ownBlock] at hg
  · simp [Value.ownBlock] at hg
    subst hg
    exact ⟨cur, hh⟩
theorem own_other {w w' : World} {base E m n : Nat} {v : Value} {xs : List Value} (h : w.ownsRow base E m v n xs) (hb : ∀ g, v.ownBlock = some g → w'.heap[g]? = w.heap[g]?) : w'.ownsRow base E m v n xs := by
  refine ⟨h.1, ?_⟩
  rcases h.2 with h2 | ⟨g, cap, cur, rfl, hb2, hg, hr⟩
  · exact .inl h2
  · exact .inr ⟨g, cap, cur, rfl, hb2, (hb g rfl).trans hg, hr⟩
theorem base0 {w : World} {base E m n : Nat} {v : Value} {xs : List Value} (h : w.ownsRow base E m v n xs) : w.ownsRow 0 E m v n xs := by
  refine ⟨h.1, ?_⟩
  rcases h.2 with h2 | ⟨g, cap, cur, e, hb, hg, hr⟩
  · exact .inl h2
  · exact .inr ⟨g, cap, cur, e, Nat.zero_le _, hg, hr⟩
theorem own_form {w : World} {base E m n : Nat} {v : Value} {xs : List Value} (h : w.ownsRow base E m v n xs) : ∃ (q : Option Addr) (c : Nat), v = .slice q n c := by
  rcases h.2 with ⟨rfl, hx⟩ | ⟨g, cap, cur, e, _⟩
  · have := h.1
    subst hx
    exact ⟨none, 0, rfl⟩
  · exact ⟨_, _, e⟩
/-- A row's form where it has an element. -/
theorem own_some {w : World} {base E m n : Nat} {v : Value} {xs : List Value} (h : w.ownsRow base E m v n xs) (hn : 0 < n) : ∃ (g c : Nat), v = .slice (some ⟨g, 0, none⟩) n c := by
  rcases h.2 with ⟨rfl, hx⟩ | ⟨g, cap, cur, e, _⟩
  · exact absurd hx (by omega)
  · exact ⟨g, cap, e⟩

/-- Block g holds a page. -/
structure Pg0 (w : World) (g : Nat) (v : Value) (l : List Sl) : Prop where
  hd : w.heap[g]? = some (.cells #[v] 214 (0, 0))
  row : w.ownsRow 0 216 2 v l.length (flat l)
  ok : Okp l
def foot (g : Nat) (v : Value) : List Nat := g :: v.ownBlock.toList
/-- Block g holds a page; F are its blocks. -/
def Pg (w : World) (g : Nat) (F : List Nat) (l : List Sl) : Prop := ∃ v, Pg0 w g v l ∧ F = foot g v
/-- What a call makes of a page. -/
def Went (F : List Nat) (g : Nat) (l : List Sl) (w w' : World) : Prop := ∃ F', Pg w' g F' l ∧ Chg F F' w w'
theorem ne_of_ty {w : World} {a b : Nat} {cs ds : Array Value} {t u : Nat} {fr fs : Nat × Nat} (h : w.heap[a]? = some (.cells cs t fr)) (k : w.heap[b]? = some (.cells ds u fs)) (ht : t ≠ u) : a ≠ b := by
  rintro rfl
  rw [h] at k
  cases k
  exact ht rfl
section
variable {w : World} {g : Nat} {v : Value} {l : List Sl}
theorem Pg0.lt (h : Pg0 w g v l) : g < w.heap.size := lt_of_block h.hd
theorem Pg0.c0 (h : Pg0 w g v l) : w.cell? ⟨g, 0, none⟩ = some v := by rw [cell_of_row w g 0 _ _ _ h.hd]; rfl
theorem Pg0.fz (h : Pg0 w g v l) : w.frozen? ⟨g, 0, none⟩ = false := frozen_of_row w g 0 _ _ h.hd
theorem Pg0.form (h : Pg0 w g v l) : ∃ q c, v = .slice q l.length c := own_form h.row
theorem Pg0.ne (h : Pg0 w g v l) : ∀ k, v.ownBlock = some k → g ≠ k := fun k hk => by obtain ⟨cur, hc⟩ := own_head h.row hk; exact ne_of_ty h.hd hc (by decide)
theorem Pg0.typed (h : Pg0 w g v l) : Typed w (foot g v) := by
  intro k hk
  unfold foot at hk
  simp only [List.mem_cons, Option.mem_toList] at hk
  rcases hk with rfl | hk
  · exact ⟨_, _, _, h.hd, .inl rfl⟩
  · obtain ⟨cur, hc⟩ := own_head h.row hk; exact ⟨_, _, _, hc, .inr rfl⟩
theorem Pg0.pg (h : Pg0 w g v l) : Pg w g (foot g v) l := ⟨_, h, rfl⟩
theorem Pg0.stay {w' : World} {F F' : List Nat} (h : Pg0 w g v l) (hc : Chg F F' w w') (hF : ∀ k ∈ foot g v, k ∉ F) : Pg0 w' g v l := by
  have hs : ∀ k ∈ foot g v, w'.heap[k]? = w.heap[k]? := fun k hk => hc.block k (by
    obtain ⟨cs, t, fr, h1, _⟩ := h.typed k hk; exact lt_of_block h1) (hF k hk)
  exact ⟨(hs g (by simp [foot])).trans h.hd, own_other h.row (fun k hk => hs k (by simp [foot, hk])), h.ok⟩
theorem Pg0.below {w' : World} (h : Pg0 w g v l) (hb : Below w.heap.size w w') : Pg0 w' g v l := h.stay (Chg.of_below (F := []) hb) (fun k _ hk => by cases hk)
/-- The cells of a slot. -/
theorem Pg0.at (h : Pg0 w g v l) {k : Nat} (hk : k < l.length) : ∃ b c, v = .slice (some ⟨b, 0, none⟩) l.length c ∧ l.length ≤ c ∧ w.cell? ⟨b, k * 2, none⟩ = some (.bool (slot l k).isSome) ∧ w.cell? ⟨b, k * 2 + 1, none⟩ = some (.string (recOf (slot l k))) := by
  obtain ⟨b, c, e⟩ := own_some h.row (by omega)
  subst e
  have hr := h.row
  have hc : l.length ≤ c := by
    rcases hr.2 with ⟨e, _⟩ | ⟨g', cap, cur, e, _, _, h1, _⟩
    · cases e
    · cases e; exact h1
  obtain ⟨f1, f2⟩ := flat_get l k hk
  have a1 := hr.cellAt (k * 2) (by omega)
  have a2 := hr.cellAt (k * 2 + 1) (by omega)
  rw [f1] at a1
  rw [f2] at a2
  exact ⟨b, c, rfl, hc, a1, a2⟩
end
theorem Pg.ok {w : World} {g : Nat} {F : List Nat} {l : List Sl} (h : Pg w g F l) : Okp l := by obtain ⟨v, h, _⟩ := h; exact h.ok
theorem Pg.typed {w : World} {g : Nat} {F : List Nat} {l : List Sl} (h : Pg w g F l) : Typed w F := by obtain ⟨v, h, rfl⟩ := h; exact h.typed
theorem Pg.lt {w : World} {g : Nat} {F : List Nat} {l : List Sl} (h : Pg w g F l) : ∀ k ∈ F, k < w.heap.size := fun k hk => by
  obtain ⟨cs, t, fr, h1, _⟩ := h.typed k hk; exact lt_of_block h1
theorem Pg.stay {w w' : World} {g : Nat} {F F1 F' : List Nat} {l : List Sl} (h : Pg w g F1 l) (hc : Chg F F' w w') (hF : ∀ k ∈ F1, k ∉ F) : Pg w' g F1 l := by
  obtain ⟨v, h, rfl⟩ := h
  exact ⟨v, h.stay hc hF, rfl⟩
theorem Pg.below {w w' : World} {g : Nat} {F : List Nat} {l : List Sl} (h : Pg w g F l) (hb : Below w.heap.size w w') : Pg w' g F l := h.stay (Chg.of_below (F := []) hb) (fun k _ hk => by cases hk)
theorem Went.refl {w : World} {F : List Nat} {g : Nat} {l : List Sl} (h : Pg w g F l) : Went F g l w w := ⟨F, h, Chg.refl _ _⟩
theorem Went.below {w w' : World} {F : List Nat} {g : Nat} {l : List Sl} (h : Pg w g F l) (hb : Below w.heap.size w w') : Went F g l w w' := ⟨F, h.below hb, Chg.of_below hb⟩
theorem Went.then {w w' w2 : World} {F : List Nat} {g : Nat} {l : List Sl} (h : Went F g l w w') (hb : Below w'.heap.size w' w2) : Went F g l w w2 := by
  obtain ⟨F', h1, h2⟩ := h
  exact ⟨F', h1.below hb, h2.trans (Chg.of_below hb)⟩
end Go.Proofs.YtmbecjlioogbhaaGreatDoor.Sl
end
section
/-! The law's records. -/
set_option linter.unusedSimpArgs false
namespace Go.Proofs.YtmbecjlioogbhaaGreatDoor.Sl
open Go.RowKit

theorem strB_size (bs : List Nat) : (strB bs).size = bs.length := by
  have h := congrArg List.length (strOfNums_data (bs.map Int.ofNat))
  simp only [List.length_map] at h
  unfold strB
  rw [← h]; rfl
/-- A step as it is handed in. -/
structure Opv where
  kind : Int
  i : Int
  long : Int
  fill : Nat
def Opv.val (o : Opv) : Value := .agg #[.int .i64 o.kind, .int .i64 o.i, .int .i64 o.long, .int .u8 (o.fill : Int)]
def i64B (x : Int) : Prop := -9223372036854775808 ≤ x ∧ x ≤ 9223372036854775807
/-- Its numbers are numbers. -/
structure OpB (o : Opv) : Prop where
  kind : i64B o.kind
  i : i64B o.i
  long : i64B o.long
  fill : o.fill < 256
theorem zeros_of (n : Nat) : (madeCells #[Value.int .u8 0] n).toList = u8s (List.replicate n 0) := by
  rw [toList_madeCells_one]
  unfold u8s
  rw [List.map_replicate]; rfl
end Go.Proofs.YtmbecjlioogbhaaGreatDoor.Sl
end
section
/-! 'append(b, make([]byte, k)...)' onto a slice of bytes of the call's own, whether there is room or not. -/
set_option linter.unusedSimpArgs false
namespace Go.Proofs.YtmbecjlioogbhaaGreatDoor.Sl
open Go.RowKit

theorem zeroCells_one (k : Nat) : (Builtin.zeroCells #[Value.int .u8 0] k).toList = List.replicate k (Value.int .u8 0) := by
  apply List.ext_getElem?
  intro j
  rw [Array.getElem?_toList]
  unfold Builtin.zeroCells
  simp only [List.size_toArray, List.length_cons, List.length_nil, Nat.zero_add, Nat.mul_one, Array.getElem?_map]
  rcases Nat.lt_or_ge j k with h | h
  · simp [h, Nat.mod_one]
  · simp [h]
theorem zeroCells_size (k : Nat) : (Builtin.zeroCells #[Value.int .u8 0] k).size = k := by rw [size_zeroCells]; simp
section
variable {P : Program} (w : World)
theorem run_append_room_zeros (t tn ty e : TypeId) (i : TypeInfo) (ht : P.underlying t = some (.slice e)) (htn : P.underlying tn = some (.int .i64)) (hi : P.info? e = some i) (hz : i.zero = some (.int .u8 0)) (hs1 : i.size = 1) (hb1 : i.bytes = 1)
    (g sLen sCap : Nat) (cur : Array Value) (hg : w.heap[g]? = some (.cells cur e (0, 0))) (k : Nat) (hk : 0 < k) (h48 : k ≤ 281474976710656)
    (hroom : sLen + k ≤ sCap) (hfit : sLen + k ≤ cur.size) :
    (Builtin.append_ #[t, tn] ty #[.slice (some ⟨g, 0, none⟩) sLen sCap, .int .i64 k]).run P w =
      .ok (.slice (some ⟨g, 0, none⟩) (sLen + k) sCap) (w.setRow g (cur.toList.take sLen ++ List.replicate k (Value.int .u8 0) ++ cur.toList.drop (sLen + k)).toArray) := by
  have hst := run_storeCells_at P g sLen e (List.replicate k (Value.int .u8 0)) 0 cur w hg (by simpa using hfit) (fun u hu => by obtain rfl := (List.mem_replicate.1 hu).2; rfl)
  simp only [Nat.add_zero, List.length_replicate] at hst
  have hw : IntKind.i64.wrap (k : Int) = k := by rw [IntKind.wrap_i64]; omega
  have hneg : ¬ ((k : Int) < 0) := by omega
  have h48i : ¬ (281474976710656 < (k : Int)) := by omega
  have hk0 : k ≠ 0 := by omega
  have hzc : (Builtin.zeroCells #[Value.int .u8 0] k).toList = List.replicate k (Value.int .u8 0) := zeroCells_one k
  simp [Builtin.append_, run_underlying ht, run_underlying htn, sizeOf, typeInfo, zeroValue, hi, hz, hs1, hb1, asInt, asIntOf, hw, hneg, h48i, hk0, hroom, Addr.add_lit, hzc, hst, Value.cells]
theorem run_append_no_zeros (t tn ty e : TypeId) (i : TypeInfo) (ht : P.underlying t = some (.slice e)) (htn : P.underlying tn = some (.int .i64)) (hi : P.info? e = some i) (hs1 : i.size = 1) (hb1 : i.bytes = 1)
    (g sLen sCap : Nat) (hroom : sLen ≤ sCap) :
    (Builtin.append_ #[t, tn] ty #[.slice (some ⟨g, 0, none⟩) sLen sCap, .int .i64 0]).run P w = .ok (.slice (some ⟨g, 0, none⟩) sLen sCap) w := by
  have hw : IntKind.i64.wrap (0 : Int) = 0 := by rw [IntKind.wrap_i64]; omega
  simp [Builtin.append_, run_underlying ht, run_underlying htn, sizeOf, typeInfo, hi, hs1, hb1, asInt, asIntOf, hw, hroom, Addr.add_lit, storeCells]
theorem run_append_own_zeros (base : Nat) (t tn ty e : TypeId) (i : TypeInfo) (ht : P.underlying t = some (.slice e)) (htn : P.underlying tn = some (.int .i64)) (hi : P.info? e = some i) (hz : i.zero = some (.int .u8 0)) (hs1 : i.size = 1) (hb1 : i.bytes = 1)
    (g n c : Nat) (xs : List Value) (hown : w.ownsRow base e 1 (.slice (some ⟨g, 0, none⟩) n c) n xs) (k : Nat) (h63 : n + k ≤ maxLen) (h48 : n + k ≤ 140737488355328) (hbase : base ≤ w.heap.size) :
    ∃ q c' w', (Builtin.append_ #[t, tn] ty #[.slice (some ⟨g, 0, none⟩) n c, .int .i64 k]).run P w = .ok (.slice q (n + k) c') w' ∧ w'.ownsRow base e 1 (.slice q (n + k) c') (n + k) (xs ++ List.replicate k (.int .u8 0)) ∧ w.grownBy w' (some g) := by
  have hxl : xs.length = n := by simpa using hown.1
  rcases hown.2 with ⟨h0, _⟩ | ⟨g', cap, cur, e0, hbg, hg, hnc, hcm, hcs, htake⟩
  · cases h0
  cases e0
  have hcs' : cur.size = c := by simpa using hcs
  have ht' : cur.toList.take n = xs := by simpa using htake
  rcases Nat.eq_zero_or_pos k with h0 | h0
  · subst h0
    exact ⟨_, _, _, run_append_no_zeros w t tn ty e i ht htn hi hs1 hb1 g n c hnc, by simpa using hown, World.grownBy.refl w _⟩
  · have hlen : (xs ++ List.replicate k (Value.int .u8 0)).length = (n + k) * 1 := by rw [List.length_append, hxl, List.length_replicate, Nat.mul_one]
    by_cases hroom : n + k ≤ c
    · refine ⟨_, _, _, run_append_room_zeros w t tn ty e i ht htn hi hz hs1 hb1 g n c cur hg k h0 (by omega) hroom (by omega), ⟨hlen, .inr ⟨g, c, _, rfl, hbg, setRow_heap w g cur _ e _ hg, hroom, hcm, ?_, ?_⟩⟩, ⟨rfl, rfl, rfl, by simp, fun j _ hj => setRow_other w g j _ (fun e => hj (by simp [e]))⟩⟩
      · simp only [List.size_toArray, List.length_append, List.length_take, List.length_drop, Array.length_toList, List.length_replicate]
        omega
      · rw [ht', ← hlen]
        exact List.take_left
    · have hf := run_firstCells_some (P := P) w.drew i.size n ⟨g, 0, none⟩ n c xs (by rw [hs1]; omega) (by simpa using hown.cells (g := g) rfl)
      have hr := Lib.run_append_grow_zeros (P := P) w t tn ty e i (.int .u8 0) .i64 .i64 ht htn hi hz (some ⟨g, 0, none⟩) n c xs hf k h0 (by omega) (by omega) (by unfold maxLen at h63; omega) (by rw [hb1]; omega) (by rw [hb1]; exact growslice_fits (by omega) (by omega))
      have hge := grownCap_ge w (n + k) c e
      have hcm2 : grownCap w (n + k) c e ≤ maxLen := grownCap_le_maxLen w (n + k) c e h63
      refine ⟨_, _, _, hr, ⟨hlen, .inr ⟨w.heap.size, _, _, rfl, hbase, heap_alloc_new w.drew _, hge, hcm2, ?_, ?_⟩⟩, ⟨rfl, rfl, rfl, by simp, fun j hj _ => heap_alloc_old w.drew _ hj⟩⟩
      · have hz1 : (Value.int IntKind.u8 0).cells = #[Value.int .u8 0] := rfl
        rw [hz1]
        simp only [Array.size_append, List.size_toArray, zeroCells_size, hxl]
        omega
      · have hz1 : (Value.int IntKind.u8 0).cells = #[Value.int .u8 0] := rfl
        rw [hz1]
        simp only [Array.toList_append, zeroCells_one, List.append_assoc]
        rw [← List.append_assoc, ← hlen]
        exact List.take_left
end
end Go.Proofs.YtmbecjlioogbhaaGreatDoor.Sl
end
section
/-! A page's bytes. -/
set_option linter.unusedSimpArgs false
namespace Go.Proofs.YtmbecjlioogbhaaGreatDoor.Sl
open Go.RowKit

def nums (S : ByteArray) : List Nat := S.data.toList.map fun b => b.toNat
theorem nums_len (S : ByteArray) : (nums S).length = S.size := by unfold nums; rw [List.length_map, Array.length_toList]; rfl
theorem nums_dig (S : ByteArray) : ∀ x ∈ nums S, x < 256 := fun x hx => by
  obtain ⟨b, _, rfl⟩ := List.mem_map.1 hx
  exact b.toNat_lt
theorem strCells_nums (S : ByteArray) : Lib.strCells S = u8s (nums S) := by
  unfold Lib.strCells u8s nums
  rw [List.map_map]; rfl
def szc (o : Sl) : Nat := if o.isSome = true then sz o + 1 else 0
def headM (l : List Sl) : List Nat := l.flatMap fun o => [szc o / 256, szc o % 256]
def recsM (l : List Sl) : List Nat := l.flatMap fun o => nums (recOf o)
def bytesM (l : List Sl) : List Nat := [l.length] ++ headM l ++ recsM l ++ List.replicate (512 - need l) 0
theorem headM_snoc (l : List Sl) (o : Sl) : headM (l ++ [o]) = headM l ++ [szc o / 256, szc o % 256] := by unfold headM; simp
theorem recsM_snoc (l : List Sl) (o : Sl) : recsM (l ++ [o]) = recsM l ++ nums (recOf o) := by unfold recsM; simp
theorem headM_len (l : List Sl) : (headM l).length = 2 * l.length := by
  unfold headM
  induction l with
  | nil => rfl
  | cons a l ih => simp only [List.flatMap_cons, List.length_append, List.length_cons, List.length_nil]; rw [ih]; omega
theorem recsM_len (l : List Sl) : (recsM l).length = tot l := by
  unfold recsM tot
  induction l with
  | nil => rfl
  | cons a l ih => simp only [List.flatMap_cons, List.length_append, List.map_cons, List.sum_cons]; rw [ih, nums_len]; rfl
theorem szc_le {o : Sl} (h : sz o ≤ 512) : szc o ≤ 513 := by unfold szc; split <;> omega
theorem headM_dig {l : List Sl} (h : ∀ o ∈ l, sz o ≤ 512) : ∀ x ∈ headM l, x < 256 := fun x hx => by
  obtain ⟨o, ho, hx⟩ := List.mem_flatMap.1 hx
  have := szc_le (h o ho)
  simp at hx
  rcases hx with rfl | rfl <;> omega
theorem recsM_dig (l : List Sl) : ∀ x ∈ recsM l, x < 256 := fun x hx => by
  obtain ⟨o, _, hx⟩ := List.mem_flatMap.1 hx
  exact nums_dig _ x hx
theorem Okp.sz512 {l : List Sl} (h : Okp l) : ∀ o ∈ l, Go.Proofs.YtmbecjlioogbhaaGreatDoor.Sl.sz o ≤ 512 := fun o ho => by have := h.sz o ho; omega
theorem bytesM_dig {l : List Sl} (h : Okp l) : ∀ x ∈ bytesM l, x < 256 := by
  unfold bytesM
  refine dig_append (dig_append (dig_append (fun x hx => ?_) (headM_dig h.sz512)) (recsM_dig l)) (fun x hx => ?_)
  · simp at hx; have := h.len; omega
  · obtain rfl := (List.mem_replicate.1 hx).2; omega
theorem bytesM_len {l : List Sl} (h : Okp l) : (bytesM l).length = 512 := by
  unfold bytesM
  have := h.need
  rw [List.length_append, List.length_append, List.length_append, headM_len, recsM_len, List.length_replicate]
  unfold need at *
  simp; omega
/-- A page's bytes, as a string. -/
def bytesS (l : List Sl) : ByteArray := strB (bytesM l)
end Go.Proofs.YtmbecjlioogbhaaGreatDoor.Sl
end
section
/-! The store's put: a number in so many bytes, appended. -/
set_option maxRecDepth 20000
set_option linter.unusedSimpArgs false
namespace Go.Proofs.YtmbecjlioogbhaaGreatDoor
open Go.RowKit

/-- A slice of bytes of the call's own. -/
def Bo (B : Nat) (w : World) (v : Value) (bs : List Nat) : Prop := ∃ p c, v = .slice p bs.length c ∧ w.ownsRow B 5 1 (.slice p bs.length c) bs.length (u8s bs)
theorem Bo.below {B : Nat} {w w' : World} {v : Value} {bs : List Nat} (h : Bo B w v bs) (hb : Below w.heap.size w w') : Bo B w' v bs := by
  obtain ⟨p, c, e, h⟩ := h
  exact ⟨p, c, e, own_below h hb⟩
theorem be_take (k n i : Nat) (h : i < k) : (be k n).take (i + 1) = (be k n).take i ++ [n / 256 ^ (k - 1 - i) % 256] := by
  rw [List.take_add_one, ← be_get k n i h, List.getD_eq_getElem?_getD, List.getElem?_eq_getElem (by rw [be_len]; exact h)]; rfl
set_option maxHeartbeats 1600000 in
theorem putS_any (B : Nat) (w : World) (v : Value) (bs : List Nat) (x k : Nat) (hB : B ≤ w.heap.size) (h : Bo B w v bs) (hx : x ≤ 1099511627776) (hk : k ≤ 4) (hl : bs.length ≤ 100000) :
    Calls Tryz.prog 119 #[v, .int .i64 (x : Int), .int .i64 (k : Int)] w fun e w' => ∃ v', e = .returned v' ∧ Bo B w' v' (bs ++ be k x) ∧ Below B w w' := by
  obtain ⟨i0, hi, hz0, hz1, hz2⟩ := info_parts Tryz.info5
  have HI := Lib.hid hi
  have HZ0 := Lib.hid hz0
  have HZ1 := Lib.hid hz1
  have HZ2 := Lib.hid hz2
  have HB := Lib.hid hB
  have HV := Lib.hid h
  clear hi hz0 hz1 hz2 h hB
  have hkI : (k : Int) ≤ 4 := by omega
  have hxI : (x : Int) ≤ 1099511627776 := by omega
  go_enter Tryz.func119, Tryz.ntmps119
  go_upto_region 2 with fail
  go_loopw [0, 7] (fun vv sv wr => ∃ i : Nat, i ≤ k ∧ sv = .int .i64 (8 * ((k : Int) - 1 - (i : Int))) ∧ Hid (Bo B wr vv (bs ++ (be k x).take i) ∧ Below B w wr)) (fun _ sv _ => (RowKit.intOf sv + 8).toNat)
  case atStart => exact ⟨0, Nat.zero_le _, by go_num, Lib.hid ⟨by rw [List.take_zero, List.append_nil]; exact HV.out, Below.refl _ _⟩⟩
  case round =>
    obtain ⟨i, hi, rfl, hr⟩ := hrel
    by_cases hlt : i < k
    · obtain ⟨s, hs1, hs2⟩ : ∃ s : Nat, 8 * ((k : Int) - 1 - (i : Int)) = (s : Int) ∧ s = 8 * (k - 1 - i) := ⟨8 * (k - 1 - i), by omega, rfl⟩
      rw [hs1]
      have HS1 := Lib.hid hs1
      have HS2 := Lib.hid hs2
      have d0 : decide ((0 : Int) ≤ (s : Int)) = true := decide_eq_true (by omega)
      have hs3 : (s : Int) ≤ 24 := by omega
      have hs4 : (0 : Int) ≤ (s : Int) := by omega
      clear hs1 hs2
      obtain ⟨⟨p3, c3, e3, hrow⟩, hbel⟩ := hr.out
      subst e3
      have HLEN : Hid ((bs ++ (be k x).take i).length = bs.length + i) := Lib.hid (by rw [List.length_append, List.length_take, be_len, Nat.min_eq_left hi])
      rw [HLEN.out] at hrow ⊢
      have HROW := Lib.hid hrow
      have HBEL := Lib.hid hbel
      clear hr hrow hbel
      obtain ⟨z, hz⟩ : ∃ z : Nat, z = x / 256 ^ (k - 1 - i) % 256 := ⟨_, rfl⟩
      have hzv : (x : Int) / 2 ^ s % 256 = (z : Int) := by
        have e : (2 : Nat) ^ s = 256 ^ (k - 1 - i) := by rw [HS2.out, Nat.pow_mul]
        rw [hz, ← e, Int.natCast_emod, Int.natCast_ediv, Int.natCast_pow]; rfl
      have HTK : Hid (bs ++ (be k x).take (i + 1) = bs ++ (be k x).take i ++ [z]) := Lib.hid (by rw [be_take k x i hlt, ← hz, List.append_assoc])
      have HROW1 := Lib.hid (HROW.out.alloc (.cells #[.int .u8 (z : Int)] 5))
      have HBB := Lib.hid (HBEL.out.alloc (Nat.le_trans HB.out HBEL.out.size) (.cells #[.int .u8 (z : Int)] 5))
      have HO2 : Hid (∀ u ∈ [Value.int .u8 (z : Int)], u.oneCell' = true) := Lib.hid (by intro u hu; simp at hu; subst hu; rfl)
      have H63 : Hid (bs.length + i + 1 ≤ maxLen) := Lib.hid (by unfold maxLen; omega)
      have HBS : Hid (B ≤ (wr.alloc (.cells #[.int .u8 (z : Int)] 5)).heap.size) := Lib.hid (Nat.le_trans (Nat.le_trans HB.out HBEL.out.size) (by simp))
      clear hz
      go_upto_region 4 with fail
      go_wp2_with (at_builtin; refine wpList_append_own _ rfl (.tmp 15) (.tmp 20) 71 rfl B 5 i0 (.int .u8 0) 1 1 Tryz.underlying71 HI.out HZ0.out HZ1.out HZ2.out rfl (by decide) (.slice p3 (bs.length + i) c3) (bs.length + i) _ (by rfl) HROW1.out ⟨wr.heap.size, 0, none⟩ 1 1 [.int .u8 (z : Int)] (by rfl) rfl (World.news_of_block (heap_alloc_new _ _)) HO2.out H63.out (by omega) HBS.out ?_; intro v2 w2 hown2 hgrow2 _)
      have HR2 : Hid (Bo B w2 v2 (bs ++ (be k x).take (i + 1)) ∧ Below B w w2) := Lib.hid (by
        obtain ⟨p4, c4, e4⟩ := Sl.own_form hown2
        subst e4
        have hlen : (bs ++ (be k x).take (i + 1)).length = bs.length + i + 1 := by rw [HTK.out, List.length_append, HLEN.out]; rfl
        refine ⟨⟨p4, c4, by rw [hlen], ?_⟩, HBB.out.grown hgrow2 HBS.out (fun k e => (HROW1.out.lt k e).1)⟩
        rw [hlen, HTK.out, u8s_append]
        exact hown2)
      clear hown2 hgrow2 HBB HROW1
      go_roundw
      case rel => exact ⟨i + 1, hlt, by
        have := HS1.out
        show Value.int .i64 _ = Value.int .i64 _
        congr 1
        omega, HR2⟩
      case measure => simp [RowKit.intOf]; omega
    · obtain rfl : i = k := by omega
      have hneg : (8 * ((i : Int) - 1 - (i : Int))) = -8 := by omega
      rw [hneg]
      have HF : Hid (Bo B wr u0 (bs ++ be i x) ∧ Below B w wr) := Lib.hid (by
        have := hr.out
        rw [List.take_of_length_le (by rw [be_len]; exact Nat.le_refl _)] at this
        exact this)
      clear hr
      go_wp2_with fail
      go_ret
      exact ⟨_, rfl, HF.out⟩
end Go.Proofs.YtmbecjlioogbhaaGreatDoor
end
section
/-! Sets of small numbers as truths: their bytes, the next number, the runs. -/
namespace Go.Proofs.YtmbecjlioogbhaaGreatDoor.Bi

/-- So many truths from a place on, as a number. -/
def bsum (f : Nat → Bool) (a : Nat) : Nat → Nat
  | 0 => 0
  | k + 1 => 2 ^ k * (f (a + k)).toNat + bsum f a k
theorem bsum_lt (f : Nat → Bool) (a k : Nat) : bsum f a k < 2 ^ k := by
  induction k with
  | zero => simp [bsum]
  | succ k ih =>
    show 2 ^ k * (f (a + k)).toNat + bsum f a k < 2 ^ (k + 1)
    rw [Nat.pow_succ]
    cases f (a + k)
    · simp; omega
    · simp; omega
theorem bsum_bit (f : Nat → Bool) (a k i : Nat) : (bsum f a k).testBit i = (decide (i < k) && f (a + i)) := by
  induction k with
  | zero => simp [bsum]
  | succ k ih =>
    show (2 ^ k * (f (a + k)).toNat + bsum f a k).testBit i = _
    rw [Nat.testBit_two_pow_mul_add _ (bsum_lt f a k)]
    by_cases h : i < k
    · rw [if_pos h, ih, decide_eq_true h, decide_eq_true (show i < k + 1 by omega)]
    · rw [if_neg h]
      by_cases h2 : i = k
      · subst h2
        rw [Nat.sub_self, decide_eq_true (Nat.lt_succ_self _)]
        cases f (a + i) <;> simp
      · rw [decide_eq_false (show ¬ i < k + 1 by omega)]
        obtain ⟨j, hj⟩ : ∃ j, i - k = j + 1 := ⟨i - k - 1, by omega⟩
        rw [hj]
        cases f (a + k) <;> simp [Nat.testBit_succ]
/-- Eight truths as a byte. -/
def byt (f : Nat → Bool) (j : Nat) : Nat := bsum f (8 * j) 8
theorem byt_lt (f : Nat → Bool) (j : Nat) : byt f j < 256 := bsum_lt f (8 * j) 8
theorem byt_bit (f : Nat → Bool) (j i : Nat) : (byt f j).testBit i = (decide (i < 8) && f (8 * j + i)) := bsum_bit f (8 * j) 8 i
theorem byt_congr {f g : Nat → Bool} {j : Nat} (h : ∀ i, i < 8 → f (8 * j + i) = g (8 * j + i)) : byt f j = byt g j := by
  apply Nat.eq_of_testBit_eq
  intro i
  rw [byt_bit, byt_bit]
  by_cases hi : i < 8
  · rw [h i hi]
  · rw [decide_eq_false hi]; rfl
theorem byt_get (f : Nat → Bool) (i : Nat) : (byt f (i / 8)).testBit (i % 8) = f i := by
  rw [byt_bit, decide_eq_true (Nat.mod_lt _ (by decide)), Bool.true_and, Nat.div_add_mod]
/-- Truths with another one at a place. -/
def upd (f : Nat → Bool) (i : Nat) (v : Bool) : Nat → Bool := fun j => if j = i then v else f j
theorem upd_same (f : Nat → Bool) (i : Nat) (v : Bool) : upd f i v i = v := if_pos rfl
theorem upd_other (f : Nat → Bool) (i j : Nat) (v : Bool) (h : j ≠ i) : upd f i v j = f j := if_neg h
theorem byt_or (f : Nat → Bool) (i : Nat) : byt f (i / 8) ||| 2 ^ (i % 8) = byt (upd f i true) (i / 8) := by
  apply Nat.eq_of_testBit_eq
  intro k
  rw [Nat.testBit_or, byt_bit, byt_bit, Nat.testBit_two_pow]
  unfold upd
  by_cases hk : k < 8
  · rw [decide_eq_true hk, Bool.true_and, Bool.true_and]
    by_cases h : i % 8 = k
    · rw [decide_eq_true h, if_pos (by omega), Bool.or_true]
    · rw [decide_eq_false h, if_neg (by omega), Bool.or_false]
  · rw [decide_eq_false hk, decide_eq_false (show ¬ i % 8 = k by omega)]; rfl
theorem byt_upd_far (f : Nat → Bool) (i j : Nat) (v : Bool) (h : j ≠ i / 8) : byt (upd f i v) j = byt f j :=
  byt_congr fun k hk => upd_other _ _ _ _ (by omega)
theorem byt_and (f : Nat → Bool) (i : Nat) : byt f (i / 8) &&& 2 ^ (i % 8) = (f i).toNat * 2 ^ (i % 8) := by
  have h := byt_get f i
  rw [Nat.testBit_eq_decide_div_mod_eq] at h
  rw [nat_bit]
  cases e : f i
  · rw [e] at h; have := of_decide_eq_false h; rw [show byt f (i / 8) / 2 ^ (i % 8) % 2 = 0 by omega]; rfl
  · rw [e] at h; rw [of_decide_eq_true h]; rfl
/-- The truths of some bytes. -/
def trs (bs : List Nat) : Nat → Bool := fun i => (bs.getD (i / 8) 0).testBit (i % 8)
theorem byt_trs (bs : List Nat) (j : Nat) (h : bs.getD j 0 < 256) : byt (trs bs) j = bs.getD j 0 := by
  apply Nat.eq_of_testBit_eq
  intro k
  rw [byt_bit]
  unfold trs
  by_cases hk : k < 8
  · rw [decide_eq_true hk, Bool.true_and, show (8 * j + k) / 8 = j by omega, show (8 * j + k) % 8 = k by omega]
  · rw [decide_eq_false hk, Bool.false_and]
    exact (Nat.testBit_lt_two_pow (Nat.lt_of_lt_of_le h (show 2 ^ 8 ≤ 2 ^ k from Nat.pow_le_pow_right (by omega) (by omega)))).symm
/-- How many bytes a size needs. -/
def need (n : Nat) : Nat := (n + 7) / 8
/-- The bytes of truths. -/
def rowF (f : Nat → Bool) (m : Nat) : List Nat := (List.range m).map (byt f)
theorem rowF_len (f : Nat → Bool) (m : Nat) : (rowF f m).length = m := by simp [rowF]
theorem rowF_getD (f : Nat → Bool) (m j : Nat) (h : j < m) : (rowF f m).getD j 0 = byt f j := by
  unfold rowF; rw [List.getD_eq_getElem?_getD, List.getElem?_map, List.getElem?_range h]; rfl
theorem rowF_dig (f : Nat → Bool) (m : Nat) : ∀ x ∈ rowF f m, x < 256 := by
  intro x hx
  obtain ⟨j, _, rfl⟩ := List.mem_map.1 hx
  exact byt_lt f j
theorem getD_ext {a b : List Nat} (hl : a.length = b.length) (h : ∀ j, j < a.length → a.getD j 0 = b.getD j 0) : a = b := by
  apply List.ext_getElem hl
  intro j h1 h2
  have := h j h1
  rwa [List.getD_eq_getElem?_getD, List.getD_eq_getElem?_getD, List.getElem?_eq_getElem h1, List.getElem?_eq_getElem h2] at this
theorem rowF_upd (f : Nat → Bool) (m i : Nat) (v : Bool) : (rowF f m).set (i / 8) (byt (upd f i v) (i / 8)) = rowF (upd f i v) m := by
  refine getD_ext (by simp [rowF_len]) fun j hj => ?_
  rw [List.length_set, rowF_len] at hj
  rw [rowF_getD _ _ _ hj, List.getD_eq_getElem?_getD, List.getElem?_set]
  by_cases h : i / 8 = j
  · subst h; simp [rowF_len, hj]
  · rw [if_neg h, ← List.getD_eq_getElem?_getD, rowF_getD _ _ _ hj, byt_upd_far _ _ _ _ (Ne.symm h)]
theorem rowF_congr {f g : Nat → Bool} {m : Nat} (h : ∀ i, i < 8 * m → f i = g i) : rowF f m = rowF g m := by
  refine getD_ext (by simp [rowF_len]) fun j hj => ?_
  rw [rowF_len] at hj
  rw [rowF_getD _ _ _ hj, rowF_getD _ _ _ hj]
  exact byt_congr fun i hi => h _ (by omega)
theorem rowF_trs {bs : List Nat} {m : Nat} (hl : bs.length = m) (hd : ∀ x ∈ bs, x < 256) : rowF (trs bs) m = bs := by
  refine getD_ext (by rw [rowF_len, hl]) fun j hj => ?_
  rw [rowF_len] at hj
  rw [rowF_getD _ _ _ hj]
  refine byt_trs bs j ?_
  rw [List.getD_eq_getElem?_getD, List.getElem?_eq_getElem (by omega)]
  exact hd _ (List.getElem_mem _)
theorem trs_rowF {f : Nat → Bool} {m i : Nat} (h : i < 8 * m) : trs (rowF f m) i = f i := by
  unfold trs
  rw [rowF_getD _ _ _ (by omega), byt_get]
theorem trs_far {bs : List Nat} {i : Nat} (h : 8 * bs.length ≤ i) : trs bs i = false := by
  unfold trs
  rw [List.getD_eq_getElem?_getD, List.getElem?_eq_none (by omega)]; simp
/-- Only numbers below the size. -/
def Sub (n : Nat) (f : Nat → Bool) : Prop := ∀ i, n ≤ i → f i = false
/-- What of truths is below a size. -/
def cut (n : Nat) (f : Nat → Bool) : Nat → Bool := fun i => decide (i < n) && f i
theorem cut_sub (n : Nat) (f : Nat → Bool) : Sub n (cut n f) := fun i h => by unfold cut; rw [decide_eq_false (by omega)]; rfl
theorem cut_of {n : Nat} {f : Nat → Bool} (h : Sub n f) : cut n f = f := by
  funext i
  unfold cut
  by_cases hi : i < n
  · rw [decide_eq_true hi, Bool.true_and]
  · rw [decide_eq_false hi, h i (by omega)]; rfl
theorem sub_ext {n : Nat} {f g : Nat → Bool} (hf : Sub n f) (hg : Sub n g) (h : ∀ i, i < n → f i = g i) : f = g := by
  funext i
  by_cases hi : i < n
  · exact h i hi
  · rw [hf i (by omega), hg i (by omega)]
theorem Sub.upd {n : Nat} {f : Nat → Bool} (h : Sub n f) {i : Nat} (hi : i < n) (v : Bool) : Sub n (upd f i v) := fun j hj => by rw [upd_other _ _ _ _ (by omega)]; exact h j hj

/-- The least place from some on where there is a truth, within so many. -/
def nx (h : Nat → Bool) : Nat → Nat → Option Nat
  | 0, _ => none
  | k + 1, i => if h i then some i else nx h k (i + 1)
/-- .. below a size. -/
def nxt (h : Nat → Bool) (n i : Nat) : Option Nat := nx h (n - i) i
/-- As a number: -1 if there is none. -/
def num : Option Nat → Int
  | none => -1
  | some j => (j : Int)
/-- How many truths there are among the first ones. -/
def cnt (f : Nat → Bool) : Nat → Nat
  | 0 => 0
  | k + 1 => cnt f k + (f k).toNat
theorem cnt_le (f : Nat → Bool) (k : Nat) : cnt f k ≤ k := by
  induction k with
  | zero => exact Nat.le_refl _
  | succ k ih => unfold cnt; cases f k <;> simp <;> omega
theorem cnt_skip {f : Nat → Bool} {i j : Nat} (hij : i ≤ j) (h : ∀ x, i ≤ x → x < j → f x = false) : cnt f j = cnt f i := by
  induction j with
  | zero => have : i = 0 := by omega
            subst this; rfl
  | succ j ih =>
    by_cases e : i = j + 1
    · subst e; rfl
    · show cnt f j + (f j).toNat = _
      rw [h j (by omega) (by omega), ih (by omega) (fun x hx hy => h x hx (by omega))]; rfl
end Go.Proofs.YtmbecjlioogbhaaGreatDoor.Bi
end
section
/-! What slices.Grow of nil and slices.Concat of pieces of bytes return. -/
set_option maxRecDepth 20000
namespace Go.Proofs.YtmbecjlioogbhaaGreatDoor
open Go.RowKit

/-- A slice of the call's own, of no byte. -/
def Empty (base : Nat) (w' : World) (v : Value) : Prop := ∃ p c, v = .slice p 0 c ∧ w'.ownsRow base 5 1 (.slice p 0 c) 0 (u8s [])

set_option maxHeartbeats 800000 in
theorem grow_any (n : Nat) (w : World) (hn : n ≤ 1099511627776) :
    Calls Tryz.prog 147 #[.slice none 0 0, .int .i64 n] w fun e w' => (∃ v, e = .returned v ∧ Empty w.heap.size w' v) ∧ Below w.heap.size w w' := by
  rcases Nat.eq_zero_or_pos n with h0 | h0
  · subst h0
    have HE : Hid (Empty w.heap.size w (.slice none 0 0)) := Lib.hid ⟨none, 0, rfl, World.ownsRow_nil _ _ _ _⟩
    go_enter Tryz.func147, Tryz.ntmps147
    go_wp2_with fail
    go_ret
    exact ⟨⟨_, rfl, HE.out⟩, Below.refl _ _⟩
  · obtain ⟨i0, hi, hz0, hz1, hz2⟩ := info_parts Tryz.info5
    have hrz : ∀ ty, (Builtin.append_ #[71, 3] ty #[.slice none 0 0, .int .i64 (n : Int)]).run Tryz.prog w =
        .ok (.slice (some ⟨w.heap.size, 0, none⟩) n (grownCap w n 0 5)) (w.drew.alloc (.cells (#[] ++ Builtin.zeroCells #[.int .u8 0] n ++ Builtin.zeroCells #[.int .u8 0] (grownCap w n 0 5 - n)) 5)) := fun ty => by
      have h := Lib.run_append_grow_zeros (P := Tryz.prog) w 71 3 ty 5 i0 (.int .u8 0) .i64 .i64 Tryz.underlying71 Tryz.underlying3 hi hz0 none 0 0 [] (run_firstCells_none w.drew i0.size 0 0 0) n h0 (by omega) (by omega) (by omega)
        (by rw [hz2]; omega) (by rw [hz2]; exact growslice_fits (by omega) (by omega))
      rw [Nat.zero_add] at h
      exact h
    have hGn := grownCap_ge w n 0 5
    have hGm := grownCap_le_maxLen w n 0 5 (by unfold maxLen; omega)
    generalize grownCap w n 0 5 = G at hrz hGn hGm
    have hcs : (#[] ++ Builtin.zeroCells #[.int .u8 0] n ++ Builtin.zeroCells #[.int .u8 0] (G - n) : Array Value).size = G := by
      rw [Array.size_append, Array.size_append, size_zeroCells, size_zeroCells]; simp; omega
    generalize (#[] ++ Builtin.zeroCells #[.int .u8 0] n ++ Builtin.zeroCells #[.int .u8 0] (G - n) : Array Value) = cs at hrz hcs
    have HE : Hid (Empty w.heap.size (w.drew.alloc (.cells cs 5)) (.slice (some ⟨w.heap.size, 0, none⟩) 0 G)) := Lib.hid ⟨_, _, rfl, rfl, .inr ⟨w.heap.size, G, cs, rfl, Nat.le_refl _, by show (w.heap.push _)[w.heap.size]? = _; simp, Nat.zero_le _, hGm, by omega, rfl⟩⟩
    unfold maxLen at hGm
    clear hcs hi hz0 hz1 hz2
    go_enter Tryz.func147, Tryz.ntmps147
    go_wp2_with (at_builtin; refine Lib.wpList_append_run _ rfl _ _ _ _ rfl _ _ rfl rfl _ _ (hrz _) ?_)
    go_ret
    exact ⟨⟨_, rfl, HE.out⟩, (Below.refl _ _).drew.alloc (Nat.le_refl _) _⟩

/-- The first pieces, one behind the other. -/
def cat (ps : Nat → List Nat) : Nat → List Nat
  | 0 => []
  | i + 1 => cat ps i ++ ps i
def Pcs (w : World) (b o n : Nat) (A : Nat → Option Addr) (L C : Nat → Nat) (ps : Nat → List Nat) : Prop :=
  ∀ r, r < n → w.cell? ⟨b, o + r, none⟩ = some (.slice (A r) (L r) (C r)) ∧ Bys w (A r) (L r) (ps r) ∧ (A r = none → C r = 0) ∧ L r ≤ C r
theorem cat_mono (ps : Nat → List Nat) {i n : Nat} (h : i ≤ n) : (cat ps i).length ≤ (cat ps n).length := by
  induction n with
  | zero => rw [Nat.le_zero.1 h]; exact Nat.le_refl _
  | succ n ih =>
    rcases Nat.lt_or_ge i (n + 1) with h1 | h1
    · refine Nat.le_trans (ih (by omega)) ?_
      show _ ≤ (cat ps n ++ ps n).length
      rw [List.length_append]; omega
    · rw [show i = n + 1 by omega]; exact Nat.le_refl _
structure CatRel (w wr : World) (v : Value) (i : Nat) (ps : Nat → List Nat) : Prop where
  below : Below w.heap.size w wr
  row : ∃ p c, v = .slice p (cat ps i).length c ∧ wr.ownsRow w.heap.size 5 1 (.slice p (cat ps i).length c) (cat ps i).length (u8s (cat ps i))

set_option maxHeartbeats 1600000 in
theorem concat_any (b o n c : Nat) (A : Nat → Option Addr) (L C : Nat → Nat) (ps : Nat → List Nat) (w : World) (hn : n ≤ 9223372036854775807) (hP : Pcs w b o n A L C ps) (hbl : b < w.heap.size) (hT : (cat ps n).length ≤ 1099511627776) :
    Calls Tryz.prog 90 #[.slice (some ⟨b, o, none⟩) n c] w fun e w' => ∃ p c, e = .returned (.slice p (cat ps n).length c) ∧ w'.ownsRow w.heap.size 5 1 (.slice p (cat ps n).length c) (cat ps n).length (u8s (cat ps n)) ∧ Below w.heap.size w w' := by
  obtain ⟨i0, hi, hz0, hz1, hz2⟩ := info_parts Tryz.info5
  have HI := Lib.hid hi
  have HZ0 := Lib.hid hz0
  have HZ1 := Lib.hid hz1
  have HZ2 := Lib.hid hz2
  have HP := Lib.hid hP
  have HT := Lib.hid hT
  clear hP hT hi hz0 hz1 hz2
  go_enter Tryz.func90, Tryz.ntmps90
  go_wp2_with fail
  go_loop [3, 11] (fun sv iv => ∃ i s : Nat, i ≤ n ∧ iv = .int .i64 (i : Int) ∧ sv = .int .i64 (s : Int) ∧ s ≤ 1099511627776 ∧ (cat ps i).length = s) (fun _ iv => n - (RowKit.intOf iv).toNat)
  case atStart => exact ⟨0, 0, by omega, by go_num, by go_num, by omega, rfl⟩
  case round =>
    obtain ⟨i, s, hin, rfl, rfl, hs40, hs⟩ := hrel
    have HS := Lib.hid hs
    clear hs
    by_cases hlt : i < n
    · obtain ⟨hcell, hBy, _, _⟩ := HP.out i hlt
      have HN : Hid ((cat ps (i + 1)).length = s + L i) := Lib.hid (by show (cat ps i ++ ps i).length = _; rw [List.length_append, HS.out, hBy.len])
      have hN2 : s + L i ≤ 1099511627776 := by rw [← HN.out]; exact Nat.le_trans (cat_mono ps hlt) HT.out
      clear hBy
      generalize L i = l at *
      generalize C i = c1 at *
      generalize A i = a1 at *
      go_wp2_with fail
      go_round
      case rel => exact ⟨i + 1, s + l, by omega, by go_num, by go_num, hN2, HN.out⟩
      case measure => simp [RowKit.intOf]; omega
    · obtain rfl : i = n := by omega
      go_wp2_with fail
      refine (grow_any s _ hs40).mono ?_
      rintro e w1 ⟨⟨v, rfl, hE⟩, hb⟩
      have H0 : Hid (CatRel w w1 v 0 ps) := Lib.hid ⟨hb, hE⟩
      clear hE hb HS
      go_wp2_with fail
      go_loopw [6, 27] (fun vv iv wr => ∃ k : Nat, k ≤ i ∧ iv = .int .i64 (k : Int) ∧ CatRel w wr vv k ps) (fun _ iv _ => i - (RowKit.intOf iv).toNat)
      case atStart => exact ⟨0, by omega, by go_num, H0.out⟩
      case round =>
        obtain ⟨k, hk, rfl, hr⟩ := hrel
        clear H0
        by_cases hlt : k < i
        · obtain ⟨hcell0, hBy0, hA0, hLC⟩ := HP.out k hlt
          obtain ⟨hbel, p, c2, rfl, hrow⟩ := hr
          have hcell := (hbel.cell (p := ⟨b, o + k, none⟩) hbl).trans hcell0
          have HBy := Lib.hid (hBy0.below hbel)
          have HA0 := Lib.hid hA0
          have HB := Lib.hid hbel
          have HE := Lib.hid (show cat ps (k + 1) = cat ps k ++ ps k from rfl)
          have hN2 : (cat ps k).length + L k ≤ 1099511627776 := by
            have h1 : (cat ps (k + 1)).length = (cat ps k).length + L k := by rw [HE.out, List.length_append, hBy0.len]
            rw [← h1]; exact Nat.le_trans (cat_mono ps hlt) HT.out
          have HPL : Hid ((ps k).length = L k) := Lib.hid hBy0.len
          have HR := Lib.hid hrow
          clear hbel hrow hcell0 hBy0 hA0
          obtain ⟨l, HL⟩ : ∃ l, Hid ((cat ps k).length = l) := ⟨_, Lib.hid rfl⟩
          rw [HL.out] at HR hN2 ⊢
          generalize hli : L k = m at *
          generalize hci : C k = c1 at *
          clear hli hci
          cases hA : A k with
          | none =>
            rw [hA] at hcell HBy
            obtain rfl : c1 = 0 := HA0.out hA
            obtain rfl : m = 0 := by omega
            clear hA HA0
            have HN : Hid (CatRel w wr (.slice p l c2) (k + 1) ps) := Lib.hid ⟨HB.out, p, c2, by rw [HE.out, HBy.out.nil_, List.append_nil, HL.out], by rw [HE.out, HBy.out.nil_, List.append_nil, HL.out]; exact HR.out⟩
            have hown := HR.out
            go_wp2_with (at_builtin; refine wpList_append_own_none rfl _ _ 71 rfl w.heap.size 5 i0 1 Tryz.underlying71 HI.out _ l _ rfl hown rfl ?_)
            clear hown
            go_wp2_with fail
            go_roundw
            case rel => exact ⟨k + 1, by omega, by go_num, HN.out⟩
            case measure => simp [RowKit.intOf]; omega
          | some ad =>
            rw [hA] at hcell HBy
            clear hA HA0
            have KN : Hid (∀ j u, (u8s (ps k))[j]? = some u → wr.cell? (ad.add j) = some u) := Lib.hid (by
              rcases Nat.eq_zero_or_pos m with h0 | h0
              · subst h0
                rw [HBy.out.nil_]
                intro j u hj
                cases hj
              · obtain ⟨ad', e, h⟩ := HBy.out.cells h0
                cases e
                exact h)
            have KL : Hid ((u8s (ps k)).length = m * 1) := Lib.hid (by rw [u8s_len, HPL.out, Nat.mul_one])
            have K63 : Hid (l + m ≤ maxLen) := Lib.hid (by unfold maxLen; omega)
            have KB : Hid ((l + m) * 1 ≤ 140737488355328) := Lib.hid (by omega)
            have KE : Hid (w.heap.size ≤ wr.heap.size) := Lib.hid HB.out.size
            have hown := HR.out
            go_wp2_with (at_builtin; refine wpList_append_own _ rfl _ _ 71 rfl w.heap.size 5 i0 (.int .u8 0) 1 1 Tryz.underlying71 HI.out HZ0.out HZ1.out HZ2.out rfl (by decide) _ l _ rfl hown ad m c1 (u8s (ps k)) rfl KL.out KN.out (u8s_one _) K63.out KB.out KE.out ?_)
            intro v2 w2 hown2 hgrow _
            obtain ⟨p2, c3, rfl⟩ := own_slice hown2
            have HN : Hid (CatRel w w2 (.slice p2 (l + m) c3) (k + 1) ps) := Lib.hid ⟨HB.out.grown hgrow HB.out.size (fun j e => (HR.out.lt j e).1), p2, c3, by rw [HE.out, List.length_append, HL.out, HPL.out], by rw [HE.out, List.length_append, HL.out, HPL.out, u8s_append]; exact hown2⟩
            clear hown hown2 hgrow KN KL K63 KB KE HR
            go_wp2_with fail
            go_roundw
            case rel => exact ⟨k + 1, by omega, by go_num, HN.out⟩
            case measure => simp [RowKit.intOf]; omega
        · obtain rfl : k = i := by omega
          obtain ⟨hbel, p, c2, rfl, hrow⟩ := hr
          have HB := Lib.hid hbel
          have HR := Lib.hid hrow
          clear hbel hrow
          obtain ⟨l, HL⟩ : ∃ l, Hid ((cat ps k).length = l) := ⟨_, Lib.hid rfl⟩
          rw [HL.out] at HR ⊢
          go_wp2_with fail
          go_ret
          rw [HL.out]
          exact ⟨p, c2, rfl, HR.out, HB.out⟩
end Go.Proofs.YtmbecjlioogbhaaGreatDoor
end
