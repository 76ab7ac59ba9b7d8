/- The memory of objects, as a model: what is at its places. -/
import Derived.Test.YtekmboolfjicbaaBytes
namespace Go.Proofs.Ytekmboolfjicbaa
open Go.RowKit

/-- An object: its kind, its values, its bytes. -/
structure Ob where
  k : Int
  vs : List (Int × Int)
  bs : List Nat
/-- What is at a place. -/
structure Cl where
  o : Ob
  num : Nat
  away : Bool
  ch : Bool
abbrev Pls := List (Option Cl)
def clAt (L : Pls) (i : Nat) : Option Cl := L.getD i none
theorem clAt_ge {L : Pls} {i : Nat} (h : L.length ≤ i) : clAt L i = none := by
  unfold clAt; rw [List.getD_eq_getElem?_getD, List.getElem?_eq_none h]; rfl
theorem clAt_some {L : Pls} {i : Nat} {c : Cl} (h : clAt L i = some c) : i < L.length := by
  rcases Nat.lt_or_ge i L.length with h1 | h1
  · exact h1
  · rw [clAt_ge h1] at h; cases h
theorem clAt_get {L : Pls} {i : Nat} (h : i < L.length) : L[i] = clAt L i := by
  unfold clAt; rw [List.getD_eq_getElem?_getD, List.getElem?_eq_getElem h]; rfl
theorem clAt_set {L : Pls} {i j : Nat} {c : Option Cl} (h : i < L.length) : clAt (L.set i c) j = if j = i then c else clAt L j := by
  unfold clAt
  rw [List.getD_eq_getElem?_getD, List.getD_eq_getElem?_getD, List.getElem?_set]
  by_cases e : i = j
  · subst e; rw [if_pos rfl, if_pos rfl, if_pos h]; rfl
  · rw [if_neg e, if_neg (Ne.symm e)]
theorem clAt_snoc {L : Pls} {j : Nat} {c : Option Cl} : clAt (L ++ [c]) j = if j = L.length then c else clAt L j := by
  unfold clAt
  rw [List.getD_eq_getElem?_getD, List.getD_eq_getElem?_getD]
  rcases Nat.lt_trichotomy j L.length with h | h | h
  · rw [List.getElem?_append_left h, if_neg (by omega)]
  · subst h; simp
  · rw [List.getElem?_eq_none (by simp; omega), if_neg (by omega), List.getElem?_eq_none (by omega)]
/-- How many objects there are. -/
def liveN (L : Pls) : Nat := L.countP fun c => c.isSome
theorem liveN_le (L : Pls) : liveN L ≤ L.length := List.countP_le_length
theorem liveN_snoc (L : Pls) (c : Cl) : liveN (L ++ [some c]) = liveN L + 1 := by unfold liveN; rw [List.countP_append]; rfl
theorem liveN_cons (c : Option Cl) (L : Pls) : liveN (c :: L) = liveN L + (if c.isSome then 1 else 0) := by unfold liveN; rw [List.countP_cons]
theorem liveN_set_some {L : Pls} {i : Nat} (c : Cl) (h : i < L.length) (hn : clAt L i = none) : liveN (L.set i (some c)) = liveN L + 1 := by
  induction L generalizing i with
  | nil => simp at h
  | cons d L ih =>
    cases i with
    | zero => have : d = none := hn; subst this; rw [List.set_cons_zero, liveN_cons, liveN_cons]; rfl
    | succ i =>
      have hn2 : clAt L i = none := hn
      rw [List.set_cons_succ, liveN_cons, liveN_cons, ih (by simpa using h) hn2]; omega
theorem liveN_set_same {L : Pls} {i : Nat} (c c' : Cl) (h : clAt L i = some c') : liveN (L.set i (some c)) = liveN L := by
  induction L generalizing i with
  | nil => cases h
  | cons d L ih =>
    cases i with
    | zero => have : d = some c' := h; subst this; rw [List.set_cons_zero, liveN_cons, liveN_cons]; rfl
    | succ i =>
      have hn2 : clAt L i = some c' := h
      rw [List.set_cons_succ, liveN_cons, liveN_cons, ih hn2]
theorem liveN_set_none {L : Pls} {i : Nat} {c' : Cl} (h : clAt L i = some c') : liveN (L.set i none) + 1 = liveN L := by
  induction L generalizing i with
  | nil => cases h
  | cons d L ih =>
    cases i with
    | zero => have : d = some c' := h; subst this; rw [List.set_cons_zero, liveN_cons, liveN_cons]; simp
    | succ i =>
      have hn2 : clAt L i = some c' := h
      rw [List.set_cons_succ, liveN_cons, liveN_cons, ← ih hn2]; omega
/-- The least place without an object. -/
def gapH (L : Pls) : Nat := L.findIdx fun c => !c.isSome
theorem gapH_le (L : Pls) : gapH L ≤ L.length := List.findIdx_le_length
theorem gapH_live {L : Pls} {j : Nat} (h : j < gapH L) : ∃ c, clAt L j = some c := by
  have hl : j < L.length := Nat.lt_of_lt_of_le h (gapH_le L)
  have := List.not_of_lt_findIdx h
  rw [clAt_get hl] at this
  cases hc : clAt L j with
  | none => rw [hc] at this; simp at this
  | some c => exact ⟨c, rfl⟩
theorem gapH_none (L : Pls) : clAt L (gapH L) = none := by
  rcases Nat.lt_or_ge (gapH L) L.length with h | h
  · have this : (!(L[gapH L]).isSome) = true := List.findIdx_getElem (w := h)
    rw [clAt_get h] at this
    cases hc : clAt L (gapH L) with
    | none => rfl
    | some c => rw [hc] at this; simp at this
  · exact clAt_ge h
theorem gapH_eq {L : Pls} {i : Nat} (hl : ∀ j, j < i → ∃ c, clAt L j = some c) (hn : clAt L i = none) : gapH L = i := by
  rcases Nat.lt_trichotomy (gapH L) i with h | h | h
  · obtain ⟨c, hc⟩ := hl _ h
    rw [gapH_none] at hc; cases hc
  · exact h
  · obtain ⟨c, hc⟩ := gapH_live h
    rw [hn] at hc; cases hc
theorem liveN_full {L : Pls} (h : gapH L = L.length) : liveN L = L.length := by
  unfold liveN
  rw [List.countP_eq_length]
  intro c hc
  obtain ⟨i, hi, e⟩ := List.getElem_of_mem hc
  obtain ⟨d, hd⟩ := gapH_live (L := L) (j := i) (by rw [h]; exact hi)
  rw [clAt_get hi, hd] at e
  rw [← e]; rfl
/-- The cell put at a place, or behind the last one. -/
def putH (L : Pls) (i : Nat) (c : Cl) : Pls := if i = L.length then L ++ [some c] else L.set i (some c)
theorem clAt_put {L : Pls} {i j : Nat} {c : Cl} (h : i ≤ L.length) : clAt (putH L i c) j = if j = i then some c else clAt L j := by
  unfold putH
  split
  · rename_i e; rw [clAt_snoc, e]
  · rw [clAt_set (by omega)]
theorem putH_len {L : Pls} {i : Nat} {c : Cl} (h : i ≤ L.length) : (putH L i c).length = max L.length (i + 1) := by
  unfold putH
  split
  · rename_i e; rw [List.length_append]; simp; omega
  · rw [List.length_set]; omega
theorem liveN_put {L : Pls} {i : Nat} (c : Cl) (h : i ≤ L.length) (hn : clAt L i = none) : liveN (putH L i c) = liveN L + 1 := by
  unfold putH
  split
  · exact liveN_snoc L c
  · exact liveN_set_some c (by omega) hn
/-- Is a value a reference to an object? -/
def hasP (L : Pls) (v : Int × Int) : Bool := decide (v.1 = 8 ∧ 0 ≤ v.2) && (clAt L v.2.toNat).isSome
theorem hasP_iff {L : Pls} {v : Int × Int} : hasP L v = true ↔ v.1 = 8 ∧ 0 ≤ v.2 ∧ ∃ c, clAt L v.2.toNat = some c := by
  unfold hasP
  rw [Bool.and_eq_true, decide_eq_true_iff, Option.isSome_iff_exists]
  exact ⟨fun h => ⟨h.1.1, h.1.2, h.2⟩, fun h => ⟨⟨h.1, h.2.1⟩, h.2.2⟩⟩
/-- May a value be? -/
def mayV (L : Pls) (v : Int × Int) : Bool := if v.1 = 8 then hasP L v else decide (0 ≤ v.1 ∧ v.1 < 9)
def lowV (k : Int) : Nat := if k = 0 ∨ k = 5 ∨ k = 8 then 2 else if k = 4 then 1 else 0
def highV (k : Int) : Nat := if k = 0 ∨ k = 5 ∨ k = 8 then 2 else if k = 4 then 1 else if k = 2 ∨ k = 3 then 0 else 256
def highB (k : Int) : Nat := if k = 2 ∨ k = 3 then 4096 else 0
/-- May an object be? -/
def mayO (L : Pls) (o : Ob) : Bool := decide (0 ≤ o.k ∧ o.k < 14) && (decide (lowV o.k ≤ o.vs.length ∧ o.vs.length ≤ highV o.k) && decide (o.bs.length ≤ highB o.k)) && o.vs.all (mayV L)
/-- The memory. -/
structure Hm where
  lim : Nat
  L : Pls
  least : Nat
  by_ : Value
  fet : Nat
  f : Nat → Option Nat
/-- What holds of one. -/
structure Hm.Ok (m : Hm) : Prop where
  l0 : 1 ≤ m.lim
  l1 : m.lim ≤ 16384
  len : m.L.length ≤ m.lim
  least : m.least ≤ m.L.length
  full : ∀ i, i < m.least → ∃ c, clAt m.L i = some c
  fet : m.fet ≤ 16384
  num : ∀ i c, clAt m.L i = some c → c.num ≤ 16384
  f1 : ∀ n i, m.f n = some i → n ≠ 0 ∧ ∃ c, clAt m.L i = some c ∧ c.num = n
  f2 : ∀ i c, clAt m.L i = some c → c.num ≠ 0 → m.f c.num = some i
theorem Hm.Ok.least_gap {m : Hm} (h : m.Ok) : m.least ≤ gapH m.L := by
  rcases Nat.lt_or_ge (gapH m.L) m.least with h1 | h1
  · obtain ⟨c, hc⟩ := h.full _ h1
    rw [gapH_none] at hc; cases hc
  · exact h1
/-- An object laid at the least place. -/
def Hm.lay (m : Hm) (c : Cl) : Hm := { m with L := putH m.L (gapH m.L) c, least := gapH m.L + 1 }
theorem Hm.Ok.lay {m : Hm} (h : m.Ok) {c : Cl} (hc : c.num = 0) (hr : liveN m.L < m.lim) : (m.lay c).Ok := by
  have hg := gapH_le m.L
  have hlen : (putH m.L (gapH m.L) c).length ≤ m.lim := by
    rw [putH_len hg]
    have := h.len
    rcases Nat.lt_or_ge (gapH m.L) m.L.length with h1 | h1
    · omega
    · have h2 : gapH m.L = m.L.length := by omega
      have := liveN_full h2
      omega
  refine ⟨h.l0, h.l1, hlen, ?_, ?_, h.fet, ?_, ?_, ?_⟩
  · show gapH m.L + 1 ≤ (putH m.L (gapH m.L) c).length
    rw [putH_len hg]; omega
  · intro i hi
    show ∃ d, clAt (putH m.L (gapH m.L) c) i = some d
    rw [clAt_put hg]
    split
    · exact ⟨c, rfl⟩
    · have : i < gapH m.L + 1 := hi
      exact gapH_live (by omega)
  · intro i d hd
    have hd2 : clAt (putH m.L (gapH m.L) c) i = some d := hd
    rw [clAt_put hg] at hd2
    split at hd2
    · cases hd2; omega
    · exact h.num i d hd2
  · intro n i hf
    obtain ⟨h0, d, hd, hn⟩ := h.f1 n i hf
    refine ⟨h0, d, ?_, hn⟩
    show clAt (putH m.L (gapH m.L) c) i = some d
    rw [clAt_put hg, if_neg]
    · exact hd
    · intro e; rw [e, gapH_none] at hd; cases hd
  · intro i d hd h0
    have hd2 : clAt (putH m.L (gapH m.L) c) i = some d := hd
    rw [clAt_put hg] at hd2
    split at hd2
    · cases hd2; omega
    · exact h.f2 i d hd2 h0
/-- An object changed, its number left. -/
def Hm.set (m : Hm) (i : Nat) (c : Cl) : Hm := { m with L := m.L.set i (some c) }
theorem Hm.Ok.set {m : Hm} (h : m.Ok) {i : Nat} {c d : Cl} (hd : clAt m.L i = some d) (hn : c.num = d.num) : (m.set i c).Ok := by
  have hi := clAt_some hd
  have hat : ∀ j, clAt (m.L.set i (some c)) j = if j = i then some c else clAt m.L j := fun j => clAt_set hi
  refine ⟨h.l0, h.l1, by show (m.L.set i (some c)).length ≤ _; rw [List.length_set]; exact h.len, by show _ ≤ (m.L.set i (some c)).length; rw [List.length_set]; exact h.least, ?_, h.fet, ?_, ?_, ?_⟩
  · intro j hj
    show ∃ d, clAt (m.L.set i (some c)) j = some d
    rw [hat]
    split
    · exact ⟨c, rfl⟩
    · exact h.full j hj
  · intro j e he
    have he2 : clAt (m.L.set i (some c)) j = some e := he
    rw [hat] at he2
    split at he2
    · cases he2; rw [hn]; exact h.num i d hd
    · exact h.num j e he2
  · intro n j hf
    obtain ⟨h0, e, he, hn2⟩ := h.f1 n j hf
    by_cases hj : j = i
    · subst hj
      rw [hd] at he; cases he
      exact ⟨h0, c, by show clAt (m.L.set j (some c)) j = some c; rw [hat, if_pos rfl], by rw [hn, hn2]⟩
    · exact ⟨h0, e, by show clAt (m.L.set i (some c)) j = some e; rw [hat, if_neg hj]; exact he, hn2⟩
  · intro j e he h0
    have he2 : clAt (m.L.set i (some c)) j = some e := he
    rw [hat] at he2
    split at he2
    · rename_i hj; cases he2; rw [hj, hn]; exact h.f2 i d hd (by rw [← hn]; exact h0)
    · exact h.f2 j e he2 h0
/-- An object whose number is taken away. -/
def unNum (f : Nat → Option Nat) (n : Nat) : Nat → Option Nat := fun k => if k = n then none else f k
def Hm.bare (m : Hm) (i : Nat) (d : Cl) : Hm := { m with L := m.L.set i (some { d with num := 0 }), f := unNum m.f d.num }
theorem Hm.Ok.bare {m : Hm} (h : m.Ok) {i : Nat} {d : Cl} (hd : clAt m.L i = some d) : (m.bare i d).Ok := by
  have hi := clAt_some hd
  have hat : ∀ j, clAt (m.L.set i (some { d with num := 0 })) j = if j = i then some { d with num := 0 } else clAt m.L j := fun j => clAt_set hi
  refine ⟨h.l0, h.l1, by show (m.L.set i _).length ≤ _; rw [List.length_set]; exact h.len, by show _ ≤ (m.L.set i _).length; rw [List.length_set]; exact h.least, ?_, h.fet, ?_, ?_, ?_⟩
  · intro j hj
    show ∃ e, clAt (m.L.set i (some { d with num := 0 })) j = some e
    rw [hat]
    split
    · exact ⟨_, rfl⟩
    · exact h.full j hj
  · intro j e he
    have he2 : clAt (m.L.set i (some { d with num := 0 })) j = some e := he
    rw [hat] at he2
    split at he2
    · cases he2; exact Nat.zero_le _
    · exact h.num j e he2
  · intro n j hf
    have hf2 : unNum m.f d.num n = some j := hf
    unfold unNum at hf2
    split at hf2
    · cases hf2
    · rename_i hne
      obtain ⟨h0, e, he, hn2⟩ := h.f1 n j hf2
      refine ⟨h0, e, ?_, hn2⟩
      show clAt (m.L.set i (some { d with num := 0 })) j = some e
      rw [hat, if_neg]
      · exact he
      · intro e2; subst e2; rw [hd] at he; cases he; exact hne hn2.symm
  · intro j e he h0
    have he2 : clAt (m.L.set i (some { d with num := 0 })) j = some e := he
    rw [hat] at he2
    split at he2
    · cases he2; exact absurd rfl h0
    · rename_i hj
      show unNum m.f d.num e.num = some j
      unfold unNum
      rw [if_neg]
      · exact h.f2 j e he2 h0
      · intro e2
        have h3 := h.f2 j e he2 h0
        rw [e2] at h3
        have h4 := h.f2 i d hd (by rw [← e2]; exact h0)
        rw [h4] at h3
        cases h3
        exact hj rfl
/-- An object dropped (its number was taken away). -/
def Hm.drop (m : Hm) (i : Nat) : Hm := { m with L := m.L.set i none, least := min m.least i }
theorem Hm.Ok.drop {m : Hm} (h : m.Ok) {i : Nat} {d : Cl} (hd : clAt m.L i = some d) (h0 : d.num = 0) : (m.drop i).Ok := by
  have hi := clAt_some hd
  have hat : ∀ j, clAt (m.L.set i none) j = if j = i then none else clAt m.L j := fun j => clAt_set hi
  refine ⟨h.l0, h.l1, by show (m.L.set i _).length ≤ _; rw [List.length_set]; exact h.len, by show min m.least i ≤ (m.L.set i _).length; rw [List.length_set]; have := h.least; omega, ?_, h.fet, ?_, ?_, ?_⟩
  · intro j hj
    have hj2 : j < min m.least i := hj
    show ∃ e, clAt (m.L.set i none) j = some e
    rw [hat, if_neg (by omega)]
    exact h.full j (by omega)
  · intro j e he
    have he2 : clAt (m.L.set i none) j = some e := he
    rw [hat] at he2
    split at he2
    · cases he2
    · exact h.num j e he2
  · intro n j hf
    obtain ⟨hn, e, he, hn2⟩ := h.f1 n j hf
    refine ⟨hn, e, ?_, hn2⟩
    show clAt (m.L.set i none) j = some e
    rw [hat, if_neg]
    · exact he
    · intro e2; subst e2; rw [hd] at he; cases he; omega
  · intro j e he hn
    have he2 : clAt (m.L.set i none) j = some e := he
    rw [hat] at he2
    split at he2
    · cases he2
    · exact h.f2 j e he2 hn
end Go.Proofs.Ytekmboolfjicbaa
