/- A page as a list of slots, and each call as a function on it. -/
import Derived.WalkKit
set_option linter.unusedSimpArgs false

namespace Go.Proofs.YtldkmkgkllgckaaDoor
open Go.RowKit

/-- A slot: bare, or with a record. -/
abbrev Sl := Option ByteArray
def recOf (o : Sl) : ByteArray := o.getD ⟨#[]⟩
def sz (o : Sl) : Nat := (recOf o).size
def tot (l : List Sl) : Nat := (l.map sz).sum
def need (l : List Sl) : Nat := 1 + 2 * l.length + tot l
def bareI (l : List Sl) : Nat := l.findIdx (fun o => o.isNone)
def withL (l : List Sl) (i : Nat) (o : Sl) : List Sl := if i = l.length then l ++ [o] else l.set i o
def slot (l : List Sl) (i : Nat) : Sl := l.getD i none
def addFull (l : List Sl) (r : ByteArray) : Bool := decide (64 < (withL l (bareI l) (some r)).length) || decide (512 < need (withL l (bareI l) (some r)))
def addL (l : List Sl) (r : ByteArray) : List Sl := if 480 < r.size then l else if addFull l r = true then l else withL l (bareI l) (some r)
def addN (l : List Sl) (r : ByteArray) : Nat := if 480 < r.size then 0 else if addFull l r = true then 0 else bareI l
def addE (l : List Sl) (r : ByteArray) : Nat := if 480 < r.size then 2 else if addFull l r = true then 8 else 0
def fullI (l : List Sl) (i : Int) : Bool := decide (0 ≤ i) && decide (i < (l.length : Int)) && (slot l i.toNat).isSome
def putFull (l : List Sl) (i : Int) (r : ByteArray) : Bool := decide (512 < need (l.set i.toNat (some r)))
def putL (l : List Sl) (i : Int) (r : ByteArray) : List Sl := if fullI l i = false then l else if 480 < r.size then l else if putFull l i r = true then l else l.set i.toNat (some r)
def putE (l : List Sl) (i : Int) (r : ByteArray) : Nat := if fullI l i = false then 5 else if 480 < r.size then 2 else if putFull l i r = true then 8 else 0
def trim (l : List Sl) : List Sl := (l.reverse.dropWhile fun o => o.isNone).reverse
def dropL (l : List Sl) (i : Int) : List Sl := if fullI l i = false then l else trim (l.set i.toNat none)
def left (l : List Sl) : Int := 512 - (need l : Int)
def room0 (l : List Sl) : Int := left l - if bareI l = l.length then 2 else 0
def room (l : List Sl) : Int := if bareI l = 64 ∨ room0 l < 0 then -1 else min (room0 l) 480
/-- What holds of a page. -/
structure Okp (l : List Sl) : Prop where
  len : l.length ≤ 64
  need : need l ≤ 512
  last : l = [] ∨ (slot l (l.length - 1)).isSome = true
  sz : ∀ o ∈ l, sz o ≤ 480

theorem sz_none : sz none = 0 := rfl
theorem sz_some (r : ByteArray) : sz (some r) = r.size := rfl
theorem slot_lt {l : List Sl} {i : Nat} (h : i < l.length) : l[i]? = some (slot l i) := by
  unfold slot; rw [List.getD_eq_getElem?_getD, List.getElem?_eq_getElem h]; rfl
theorem slot_ge {l : List Sl} {i : Nat} (h : l.length ≤ i) : slot l i = none := by
  unfold slot; rw [List.getD_eq_getElem?_getD, List.getElem?_eq_none h]; rfl
theorem slot_set {l : List Sl} {i : Nat} (h : i < l.length) (o : Sl) (j : Nat) : slot (l.set i o) j = if i = j then o else slot l j := by
  unfold slot
  rw [List.getD_eq_getElem?_getD, List.getD_eq_getElem?_getD, List.getElem?_set]
  split
  · rename_i e; subst e; simp [h]
  · rfl
theorem slot_snoc (l : List Sl) (o : Sl) (j : Nat) : slot (l ++ [o]) j = if j = l.length then o else slot l j := by
  unfold slot
  rw [List.getD_eq_getElem?_getD, List.getD_eq_getElem?_getD]
  rcases Nat.lt_trichotomy j l.length with h | h | h
  · rw [if_neg (by omega), List.getElem?_append_left h]
  · rw [if_pos h, h, List.getElem?_append_right (Nat.le_refl _)]; simp
  · rw [if_neg (by omega), List.getElem?_append_right (by omega), List.getElem?_eq_none (by simp; omega), List.getElem?_eq_none (by omega)]
theorem slot_mem {l : List Sl} {i : Nat} (h : i < l.length) : slot l i ∈ l := List.mem_of_getElem? (slot_lt h)
theorem tot_nil : tot [] = 0 := rfl
theorem tot_append (a b : List Sl) : tot (a ++ b) = tot a + tot b := by unfold tot; rw [List.map_append, List.sum_append]
theorem tot_one (o : Sl) : tot [o] = sz o := by simp [tot]
theorem tot_take_succ {l : List Sl} {k : Nat} (h : k < l.length) : tot (l.take (k + 1)) = tot (l.take k) + sz (slot l k) := by
  rw [List.take_succ_eq_append_getElem h, tot_append, tot_one]
  congr 2
  have := slot_lt h
  rw [List.getElem?_eq_getElem h] at this
  exact Option.some.inj this
theorem tot_split {l : List Sl} {k : Nat} (h : k < l.length) : tot l = tot (l.take k) + sz (slot l k) + tot (l.drop (k + 1)) := by
  rw [← tot_take_succ h, ← tot_append, List.take_append_drop]
theorem tot_set {l : List Sl} {k : Nat} (h : k < l.length) (o : Sl) : tot (l.set k o) + sz (slot l k) = tot l + sz o := by
  have h1 := tot_split (l := l.set k o) (k := k) (by simpa using h)
  have h2 := tot_split h
  rw [slot_set h, if_pos rfl, List.take_set_of_le (Nat.le_refl _), List.drop_set_of_lt (by omega)] at h1
  omega
theorem tot_take_le (l : List Sl) (k : Nat) : tot (l.take k) ≤ tot l := by
  have := tot_append (l.take k) (l.drop k)
  rw [List.take_append_drop] at this
  omega
theorem sz_le_tot {l : List Sl} {k : Nat} (h : k < l.length) : sz (slot l k) ≤ tot l := by have := tot_split h; omega

theorem bareI_le (l : List Sl) : bareI l ≤ l.length := List.findIdx_le_length
theorem bareI_lt {l : List Sl} (h : bareI l < l.length) : slot l (bareI l) = none := by
  have h1 := List.findIdx_getElem (w := h)
  have h2 := slot_lt h
  rw [List.getElem?_eq_getElem h] at h2
  rw [← Option.some.inj h2]
  unfold bareI at h1 ⊢
  simpa using h1
theorem bareI_no {l : List Sl} {j : Nat} (h : j < bareI l) : (slot l j).isSome = true := by
  have hj : j < l.length := Nat.lt_of_lt_of_le h (bareI_le l)
  have h1 := List.not_of_lt_findIdx h
  have h2 := slot_lt hj
  rw [List.getElem?_eq_getElem hj] at h2
  rw [← Option.some.inj h2]
  cases e : l[j] with
  | none => rw [e] at h1; simp at h1
  | some r => rfl
theorem bareI_eq {l : List Sl} {i : Nat} (h : i ≤ l.length) (h1 : ∀ j, j < i → (slot l j).isSome = true) (h2 : i < l.length → slot l i = none) : bareI l = i := by
  rcases Nat.lt_trichotomy (bareI l) i with h3 | h3 | h3
  · have := h1 _ h3
    rw [bareI_lt (by omega)] at this; cases this
  · exact h3
  · have := bareI_no h3
    rw [h2 (Nat.lt_of_lt_of_le h3 (bareI_le l))] at this; cases this

theorem withL_len {l : List Sl} {i : Nat} (h : i ≤ l.length) (o : Sl) : (withL l i o).length = if i = l.length then l.length + 1 else l.length := by
  unfold withL; split <;> simp
theorem withL_need {l : List Sl} (r : ByteArray) : need (withL l (bareI l) (some r)) = need l + r.size + if bareI l = l.length then 2 else 0 := by
  unfold withL need
  split
  · rw [List.length_append, tot_append, tot_one, sz_some]; simp; omega
  · rename_i h
    have h1 : bareI l < l.length := by have := bareI_le l; omega
    have h2 := tot_set h1 (some r)
    rw [bareI_lt h1, sz_none, sz_some] at h2
    rw [List.length_set]; omega
theorem withL_slot {l : List Sl} {i : Nat} (h : i ≤ l.length) (o : Sl) (j : Nat) : slot (withL l i o) j = if j = i then o else slot l j := by
  unfold withL
  split
  · rename_i e; rw [slot_snoc, e]
  · rw [slot_set (by omega)]; split <;> rename_i h1 <;> split <;> rename_i h2 <;> first | rfl | (exfalso; omega)
/-- What Room tells is whether a record can be added. -/
theorem room_full {l : List Sl} (h : l.length ≤ 64) (r : ByteArray) (hr : r.size ≤ 480) : addFull l r = decide (room l < (r.size : Int)) := by
  unfold addFull room room0 left
  rw [withL_need, withL_len (bareI_le l), ← Bool.decide_or, decide_eq_decide]
  have := bareI_le l
  split <;> (repeat' split) <;> omega
theorem put_full {l : List Sl} {i : Nat} (h : i < l.length) (r : ByteArray) : decide (512 < need (l.set i (some r))) = decide (left l + (sz (slot l i) : Int) < (r.size : Int)) := by
  unfold left need
  have := tot_set h (some r)
  rw [sz_some] at this
  rw [List.length_set, decide_eq_decide]
  omega

theorem trim_nil : trim [] = [] := rfl
theorem trim_none (l : List Sl) : trim (l ++ [none]) = trim l := by unfold trim; rw [List.reverse_append]; rfl
theorem trim_some (l : List Sl) (r : ByteArray) : trim (l ++ [some r]) = l ++ [some r] := by
  unfold trim; rw [List.reverse_append]
  simp
theorem take_slot {l : List Sl} {k : Nat} (h : k < l.length) : l.take (k + 1) = l.take k ++ [slot l k] := by
  rw [List.take_succ_eq_append_getElem h]
  congr 2
  have := slot_lt h
  rw [List.getElem?_eq_getElem h] at this
  exact Option.some.inj this
/-- Of a list of which all from k on is bare. -/
theorem trim_take {l : List Sl} {k : Nat} (h : k ≤ l.length) (hb : ∀ j, k ≤ j → j < l.length → slot l j = none) : trim l = trim (l.take k) := by
  obtain ⟨d, hd⟩ : ∃ d, k + d = l.length := ⟨l.length - k, by omega⟩
  induction d generalizing k with
  | zero => rw [List.take_of_length_le (by omega)]
  | succ d ih =>
    rw [ih (k := k + 1) (by omega) (fun j h1 h2 => hb j (by omega) h2) (by omega), take_slot (by omega), hb k (Nat.le_refl _) (by omega), trim_none]
theorem trim_stop {l : List Sl} {k : Nat} (h : k ≤ l.length) (h0 : 0 < k → (slot l (k - 1)).isSome = true) : trim (l.take k) = l.take k := by
  rcases Nat.eq_zero_or_pos k with e | e
  · subst e; rfl
  · obtain ⟨r, hr⟩ := Option.isSome_iff_exists.1 (h0 e)
    have := take_slot (l := l) (k := k - 1) (by omega)
    rw [show k - 1 + 1 = k by omega, hr] at this
    rw [this, trim_some]
theorem trim_is (l : List Sl) : ∃ k, k ≤ l.length ∧ trim l = l.take k ∧ (0 < k → (slot l (k - 1)).isSome = true) ∧ ∀ j, k ≤ j → slot l j = none := by
  suffices h : ∀ k, k ≤ l.length → (∀ j, k ≤ j → slot l j = none) → ∃ k, k ≤ l.length ∧ trim l = l.take k ∧ (0 < k → (slot l (k - 1)).isSome = true) ∧ ∀ j, k ≤ j → slot l j = none from h l.length (Nat.le_refl _) (fun j hj => slot_ge hj)
  intro k
  induction k with
  | zero => intro _ hj; exact ⟨0, Nat.zero_le _, by rw [trim_take (Nat.zero_le _) (fun j h1 _ => hj j h1)]; rfl, fun h => absurd h (Nat.lt_irrefl 0), hj⟩
  | succ k ih =>
    intro hk hj
    cases e : slot l k with
    | none => exact ih (by omega) (fun j h => by rcases Nat.lt_or_ge k j with h1 | h1
                                                 · exact hj j h1
                                                 · obtain rfl : j = k := by omega
                                                   exact e)
    | some r =>
      refine ⟨k + 1, hk, ?_, fun _ => by simp [e], hj⟩
      rw [trim_take hk (fun j h1 _ => hj j h1), trim_stop hk (fun _ => by simp [e])]
theorem trim_slot (l : List Sl) (j : Nat) : slot (trim l) j = slot l j := by
  obtain ⟨k, hk, e, _, hb⟩ := trim_is l
  rw [e]
  rcases Nat.lt_or_ge j k with h | h
  · unfold slot; rw [List.getD_eq_getElem?_getD, List.getD_eq_getElem?_getD, List.getElem?_take_of_lt h]
  · rw [hb j h, slot_ge (by rw [List.length_take]; omega)]
theorem Okp.nil_ : Okp [] := ⟨by decide, by decide, .inl rfl, by simp⟩
theorem Okp.left {l : List Sl} (h : Okp l) : 0 ≤ left l := by have := h.need; unfold Go.Proofs.YtldkmkgkllgckaaDoor.left; omega
theorem Okp.szs {l : List Sl} (h : Okp l) (i : Nat) : Go.Proofs.YtldkmkgkllgckaaDoor.sz (slot l i) ≤ 480 := by
  rcases Nat.lt_or_ge i l.length with h1 | h1
  · exact h.sz _ (slot_mem h1)
  · rw [slot_ge h1]; decide
theorem okp_of {l : List Sl} (h1 : l.length ≤ 64) (h2 : Go.Proofs.YtldkmkgkllgckaaDoor.need l ≤ 512) (h3 : l = [] ∨ (slot l (l.length - 1)).isSome = true) (h4 : ∀ i, i < l.length → Go.Proofs.YtldkmkgkllgckaaDoor.sz (slot l i) ≤ 480) : Okp l :=
  ⟨h1, h2, h3, fun o ho => by
    obtain ⟨i, hi, e⟩ := List.getElem_of_mem ho
    have := slot_lt hi
    rw [List.getElem?_eq_getElem hi, e] at this
    rw [Option.some.inj this]; exact h4 i hi⟩
theorem Okp.add {l : List Sl} (h : Okp l) (r : ByteArray) : Okp (addL l r) := by
  unfold addL
  split
  · exact h
  · rename_i hr
    split
    · exact h
    · rename_i hf
      unfold addFull at hf
      simp only [Bool.or_eq_true, decide_eq_true_eq, not_or, Nat.not_lt] at hf
      refine okp_of hf.1 hf.2 (.inr ?_) (fun i _ => ?_)
      · rw [withL_slot (bareI_le l)]
        split
        · rfl
        · rename_i hne
          rw [withL_len (bareI_le l)] at hne ⊢
          split at hne
          · exfalso; omega
          · rename_i h2
            rw [if_neg h2]
            rcases h.last with h3 | h3
            · subst h3; exact absurd rfl h2
            · exact h3
      · rw [withL_slot (bareI_le l)]
        split
        · rw [sz_some]; omega
        · exact h.szs i
theorem fullI_lt {l : List Sl} {i : Int} (h : fullI l i = true) : ∃ k : Nat, i = (k : Int) ∧ k < l.length ∧ (slot l k).isSome = true := by
  unfold fullI at h
  simp only [Bool.and_eq_true, decide_eq_true_eq] at h
  exact ⟨i.toNat, by omega, by omega, h.2⟩
theorem fullI_nat (l : List Sl) (k : Nat) : fullI l (k : Int) = (slot l k).isSome := by
  unfold fullI
  rw [Int.toNat_natCast]
  rcases Nat.lt_or_ge k l.length with h | h
  · rw [decide_eq_true (by omega), decide_eq_true (by omega)]; rfl
  · rw [slot_ge h]; simp
theorem Okp.put {l : List Sl} (h : Okp l) (i : Int) (r : ByteArray) : Okp (putL l i r) := by
  unfold putL
  split
  · exact h
  · rename_i hi
    obtain ⟨k, rfl, hk, hs⟩ := fullI_lt (by simpa using hi)
    split
    · exact h
    · rename_i hr
      split
      · exact h
      · rename_i hf
        unfold putFull at hf
        rw [Int.toNat_natCast] at hf ⊢
        simp only [decide_eq_true_eq, Nat.not_lt] at hf
        refine okp_of (by rw [List.length_set]; exact h.len) hf (.inr ?_) (fun j _ => ?_)
        · rw [List.length_set, slot_set hk]
          split
          · rfl
          · exact h.last.resolve_left (fun e => by subst e; simp at hk)
        · rw [slot_set hk]
          split
          · rw [sz_some]; omega
          · exact h.szs j
theorem Okp.drop {l : List Sl} (h : Okp l) (i : Int) : Okp (dropL l i) := by
  unfold dropL
  split
  · exact h
  · rename_i hi
    obtain ⟨k, rfl, hk, hs⟩ := fullI_lt (by simpa using hi)
    rw [Int.toNat_natCast]
    obtain ⟨m, hm, e, hl, hb⟩ := trim_is (l.set k none)
    have h1 := tot_take_le (l.set k none) m
    have h2 := tot_set hk none
    rw [sz_none] at h2
    have h3 := h.need
    have h4 := h.len
    rw [List.length_set] at hm
    refine okp_of (by rw [e, List.length_take, List.length_set]; omega) (by unfold Go.Proofs.YtldkmkgkllgckaaDoor.need at h3 ⊢; rw [e, List.length_take, List.length_set]; omega) ?_ (fun j _ => ?_)
    · rcases Nat.eq_zero_or_pos m with h5 | h5
      · left; rw [e, h5]; rfl
      · right
        rw [trim_slot, e, List.length_take, List.length_set, Nat.min_eq_left hm]
        exact hl h5
    · rw [trim_slot, slot_set hk]
      split
      · decide
      · exact h.szs j
theorem roomM_le (l : List Sl) : room l ≤ 480 := by unfold room; split <;> omega
/-- A slot's cells. -/
def two (o : Sl) : List Value := [.bool o.isSome, .string (recOf o)]
def flat (l : List Sl) : List Value := l.flatMap two
theorem flat_nil : flat [] = [] := rfl
theorem flat_append (a b : List Sl) : flat (a ++ b) = flat a ++ flat b := by unfold flat; rw [List.flatMap_append]
theorem flat_one (o : Sl) : flat [o] = two o := by simp [flat]
theorem flat_cons (o : Sl) (l : List Sl) : flat (o :: l) = two o ++ flat l := rfl
theorem flat_len (l : List Sl) : (flat l).length = l.length * 2 := by
  induction l with
  | nil => rfl
  | cons a l ih => rw [flat_cons, List.length_append, ih, List.length_cons]; simp [two]; omega
theorem flat_get (l : List Sl) (k : Nat) (h : k < l.length) : (flat l)[k * 2]? = some (.bool (slot l k).isSome) ∧ (flat l)[k * 2 + 1]? = some (.string (recOf (slot l k))) := by
  induction l generalizing k with
  | nil => cases h
  | cons a l ih =>
    cases k with
    | zero => exact ⟨rfl, rfl⟩
    | succ k =>
      have h2 := ih k (by simpa using h)
      have hl : (two a).length = 2 := rfl
      rw [flat_cons, List.getElem?_append_right (by rw [hl]; omega), List.getElem?_append_right (by rw [hl]; omega)]
      rw [hl, show (k + 1) * 2 - 2 = k * 2 by omega, show (k + 1) * 2 + 1 - 2 = k * 2 + 1 by omega]
      exact h2
theorem flat_set (l : List Sl) (k : Nat) (o : Sl) (h : k < l.length) : (((flat l).set (k * 2) (.bool o.isSome)).set (k * 2 + 1) (.string (recOf o))) = flat (l.set k o) := by
  induction l generalizing k with
  | nil => cases h
  | cons a l ih =>
    cases k with
    | zero => rfl
    | succ k =>
      have h2 := ih k (by simpa using h)
      have e1 : (k + 1) * 2 = k * 2 + 1 + 1 := by omega
      rw [e1]
      exact congrArg (fun z => Value.bool (Option.isSome a) :: Value.string (recOf a) :: z) h2
theorem flat_one_cell (l : List Sl) : ∀ u ∈ flat l, u.oneCell' = true := by
  intro u hu
  obtain ⟨x, _, hu⟩ := List.mem_flatMap.1 hu
  simp [two] at hu
  rcases hu with rfl | rfl <;> rfl
theorem flat_take (l : List Sl) (k : Nat) : flat (l.take k) = (flat l).take (k * 2) := by
  rcases Nat.lt_or_ge l.length k with h | h
  · rw [List.take_of_length_le (by omega), List.take_of_length_le (by rw [flat_len]; omega)]
  · have := flat_append (l.take k) (l.drop k)
    rw [List.take_append_drop] at this
    rw [this, List.take_left' (by rw [flat_len, List.length_take]; omega)]
end Go.Proofs.YtldkmkgkllgckaaDoor
