/- Texts RdM to Com of this seat, laid into one. -/
import Derived.Test.YthjjgpepgbfalaaGreatDoorProg
import Derived.WalkKit
import Derived.WalkSpells
import Derived.WalkLawsBesides
import Derived.Laws.BitsAllLaws
import Derived.Laws.OwnMore
import Derived.Lib.Hide
import Derived.Lib.SlBytesConst
import Derived.Outline
import Derived.OneCell
import Derived.OwnWalk
import Derived.Laws.CopyOwn
import Derived.Laws.BytesArg
import Derived.WideShapes
import Derived.Maps.AppendAt
import Derived.Laws.Rows
import Derived.WalkSmall
import Derived.Test.YthjjgpepgbfalaaGreatDoorM00
set_option linter.unusedVariables false
set_option linter.unusedSimpArgs false
set_option linter.constructorNameAsVariable false
section
/-! The reader, purely: nodes by their numbers, and what the parser makes of tokens. -/
namespace Go.Proofs.YthjjgpepgbfalaaGreatDoor

/-- A node: its token and where that stands, what lies in it, whether the last item is a chain's end, what an again stands for, its value. -/
structure Nd where
  t : Lx.Tk
  a : Nat
  is : List Nat
  d : Bool
  sm : Option Nat
  v : Int × Int
def nd0 : Nd := ⟨⟨0, 0, []⟩, 0, [], false, none, (0, 0)⟩
def ndAt (A : List Nd) (i : Nat) : Nd := A.getD i nd0
/-- One node more, that lies in node i. -/
def addN (A : List Nd) (i : Nat) (t : Lx.Tk) (a : Nat) : List Nd := A.set i { ndAt A i with is := (ndAt A i).is ++ [A.length] } ++ [{ nd0 with t := t, a := a }]
theorem addN_len (A : List Nd) (i : Nat) (t : Lx.Tk) (a : Nat) : (addN A i t a).length = A.length + 1 := by unfold addN; simp
theorem ndAt_add {A : List Nd} {i : Nat} (h : i < A.length) (t : Lx.Tk) (a : Nat) (j : Nat) : ndAt (addN A i t a) j = if j = A.length then { nd0 with t := t, a := a } else if j = i then { ndAt A i with is := (ndAt A i).is ++ [A.length] } else ndAt A j := by
  unfold addN ndAt
  rw [List.getD_eq_getElem?_getD, List.getD_eq_getElem?_getD, List.getD_eq_getElem?_getD]
  rcases Nat.lt_trichotomy j A.length with h1 | h1 | h1
  · rw [List.getElem?_append_left (by simpa using h1), if_neg (by omega), List.getElem?_set]
    by_cases e : i = j
    · subst e; rw [if_pos rfl, if_pos rfl, if_pos h]; rfl
    · rw [if_neg e, if_neg (fun e2 => e e2.symm)]
  · subst h1; rw [if_pos rfl, List.getElem?_append_right (by simp)]; simp
  · rw [if_neg (by omega), if_neg (by omega), List.getElem?_eq_none (by simp; omega), List.getElem?_eq_none (by omega)]
def setDot (A : List Nd) (i : Nat) : List Nd := A.set i { ndAt A i with d := true }
def setSame (A : List Nd) (i : Nat) (s : Option Nat) : List Nd := A.set i { ndAt A i with sm := s }
def setVal (A : List Nd) (i : Nat) (v : Int × Int) : List Nd := A.set i { ndAt A i with v := v }
theorem ndAt_set {A : List Nd} {i : Nat} (h : i < A.length) (x : Nd) (j : Nat) : ndAt (A.set i x) j = if j = i then x else ndAt A j := by
  unfold ndAt
  rw [List.getD_eq_getElem?_getD, List.getD_eq_getElem?_getD, List.getElem?_set]
  by_cases e : i = j
  · subst e; rw [if_pos rfl, if_pos rfl, if_pos h]; rfl
  · rw [if_neg e, if_neg (fun e2 => e e2.symm)]
/-- What a node stands for; so many steps at most. -/
def standsF (A : List Nd) : Nat → Nat → Option Nat
  | 0, _ => none
  | f + 1, i => if (ndAt A i).t.k = 16 then (ndAt A i).sm else if (ndAt A i).t.k ≠ 15 then some i else match (ndAt A i).is with
    | [] => none
    | j :: _ => standsF A f j
/-- What lies in a node has a higher number; what it stands for is there. -/
def Ord (A : List Nd) : Prop := ∀ i, i < A.length → (∀ j ∈ (ndAt A i).is, i < j ∧ j < A.length) ∧ ∀ j, (ndAt A i).sm = some j → j < A.length
theorem standsF_fuel {A : List Nd} (h : Ord A) : ∀ (f g i : Nat), i < A.length → A.length ≤ i + f → A.length ≤ i + g → standsF A f i = standsF A g i
  | 0, _, i, hi, hf, _ => by omega
  | _, 0, i, hi, _, hg => by omega
  | f + 1, g + 1, i, hi, hf, hg => by
    unfold standsF
    split
    · rfl
    · split
      · rfl
      · cases hs : (ndAt A i).is with
        | nil => rfl
        | cons j l =>
          have hj := (h i hi).1 j (by rw [hs]; exact List.mem_cons_self ..)
          exact standsF_fuel h f g j hj.2 (by omega) (by omega)
def stands (A : List Nd) (i : Nat) : Option Nat := standsF A (A.length + 1) i
theorem stands_step {A : List Nd} (h : Ord A) {i : Nat} (hi : i < A.length) : stands A i = if (ndAt A i).t.k = 16 then (ndAt A i).sm else if (ndAt A i).t.k ≠ 15 then some i else match (ndAt A i).is with
    | [] => none
    | j :: _ => stands A j := by
  unfold stands
  rw [standsF]
  split
  · rfl
  · split
    · rfl
    · cases hs : (ndAt A i).is with
      | nil => rfl
      | cons j l =>
        have hj := (h i hi).1 j (by rw [hs]; exact List.mem_cons_self ..)
        exact standsF_fuel h _ _ j hj.2 (by omega) (by omega)
theorem stands_lt {A : List Nd} (h : Ord A) : ∀ (n i : Nat), i < A.length → A.length ≤ i + n → ∀ j, stands A i = some j → j < A.length
  | 0, i, hi, hn, _, _ => by omega
  | n + 1, i, hi, hn, j, hj => by
    rw [stands_step h hi] at hj
    split at hj
    · exact (h i hi).2 j hj
    · split at hj
      · cases hj; exact hi
      · cases hs : (ndAt A i).is with
        | nil => rw [hs] at hj; cases hj
        | cons k l =>
          rw [hs] at hj
          have hk := (h i hi).1 k (by rw [hs]; exact List.mem_cons_self ..)
          exact stands_lt h n k hk.2 (by omega) j hj
/-- What the parser has: the tokens that are left, the labels, the first fault, the nodes. -/
structure Ps where
  ts : List (Lx.Tk × Nat)
  lab : Int → Option Nat
  pl : Nat
  e : Int
  A : List Nd
def isK (σ : Ps) (k : Nat) : Bool := match σ.ts with
  | [] => false
  | x :: _ => decide (x.1.k = k)
def headA (sz : Nat) (ts : List (Lx.Tk × Nat)) : Nat := match ts with
  | [] => sz
  | x :: _ => x.2
def failM (sz : Nat) (σ : Ps) (e : Int) : Ps := { σ with pl := headA sz σ.ts, e := e }
def begins (k : Nat) : Bool := !(decide (k = 1) || decide (k = 8) || decide (k = 9))
def holds (k : Nat) : Bool := decide (k = 0) || decide (k = 2) || decide (k = 3) || decide (k = 4) || decide (k = 5) || decide (k = 6) || decide (k = 7) || decide (k = 15)
def isByteM (t : Lx.Tk) : Bool := decide (t.k = 10) && decide (0 ≤ t.n) && decide (t.n ≤ 255)
def fullM (x : Nd) : Bool := decide (x.t.k = 2) && decide (256 ≤ x.is.length)
/-- What is wrong with the next token as the first one of a datum in node i. -/
def faultM (dp : Nat) (σ : Ps) (i : Nat) : Int := match σ.ts with
  | [] => 3
  | x :: _ =>
    if (!begins x.1.k || (decide ((ndAt σ.A i).t.k = 3) && !isByteM x.1)) = true then 4
    else if (decide (x.1.k = 16) && !(σ.lab x.1.n).isSome) = true then 5
    else if (decide (x.1.k = 16) && !((σ.lab x.1.n).bind (stands σ.A)).isSome) = true then 4
    else if (decide (x.1.k = 15) && (σ.lab x.1.n).isSome) = true then 6
    else if (fullM (ndAt σ.A i) || (decide (64 ≤ dp) && holds x.1.k)) = true then 2
    else 0
def nameOf (k : Nat) : List UInt8 := if k = 5 then [113, 117, 97, 115, 105, 113, 117, 111, 116, 101] else if k = 6 then [117, 110, 113, 117, 111, 116, 101] else if k = 7 then [117, 110, 113, 117, 111, 116, 101, 45, 115, 112, 108, 105, 99, 105, 110, 103] else [113, 117, 111, 116, 101]
def putLab (f : Int → Option Nat) (x : Int) (j : Nat) : Int → Option Nat := fun y => if y = x then some j else f y
def closeM (sz : Nat) (σ : Ps) : Bool × Ps := match σ.ts with
  | [] => (false, failM sz σ 3)
  | x :: l => if x.1.k = 1 then (true, { σ with ts := l }) else (false, failM sz σ 4)
mutual
def skipsM (sz : Nat) : Nat → Nat → Ps → Option (Bool × Ps)
  | 0, _, _ => none
  | f + 1, dp, σ => if isK σ 8 = true then
      match behindM sz f dp σ.A.length { σ with ts := σ.ts.tail, A := σ.A ++ [nd0] } with
      | none => none
      | some (false, σ') => some (false, σ')
      | some (true, σ') => skipsM sz f dp { σ' with lab := σ.lab }
    else some (true, σ)
def behindM (sz : Nat) : Nat → Nat → Nat → Ps → Option (Bool × Ps)
  | 0, _, _, _ => none
  | f + 1, dp, i, σ => match skipsM sz f dp σ with
    | none => none
    | some (false, σ') => some (false, σ')
    | some (true, σ') => datumM sz f dp i σ'
def datumM (sz : Nat) : Nat → Nat → Nat → Ps → Option (Bool × Ps)
  | 0, _, _, _ => none
  | f + 1, dp, i, σ => if faultM dp σ i ≠ 0 then some (false, failM sz σ (faultM dp σ i)) else
    match σ.ts with
    | [] => none
    | x :: l => restM sz f (dp + 1) σ.A.length { σ with ts := l, A := addN σ.A i x.1 x.2 }
def restM (sz : Nat) : Nat → Nat → Nat → Ps → Option (Bool × Ps)
  | 0, _, _, _ => none
  | f + 1, dp, n, σ =>
    if (ndAt σ.A n).t.k = 0 ∨ (ndAt σ.A n).t.k = 2 ∨ (ndAt σ.A n).t.k = 3 then rowM sz f dp n σ
    else if (ndAt σ.A n).t.k = 4 ∨ (ndAt σ.A n).t.k = 5 ∨ (ndAt σ.A n).t.k = 6 ∨ (ndAt σ.A n).t.k = 7 then behindM sz f dp n { σ with A := addN σ.A n ⟨14, 0, nameOf (ndAt σ.A n).t.k⟩ 0 }
    else if (ndAt σ.A n).t.k = 15 then behindM sz f dp n { σ with lab := putLab σ.lab (ndAt σ.A n).t.n n }
    else if (ndAt σ.A n).t.k = 16 then match σ.lab (ndAt σ.A n).t.n with
      | none => none
      | some j => some (true, { σ with A := setSame σ.A n (stands σ.A j) })
    else some (true, σ)
def rowM (sz : Nat) : Nat → Nat → Nat → Ps → Option (Bool × Ps)
  | 0, _, _, _ => none
  | f + 1, dp, n, σ => match skipsM sz f dp σ with
    | none => none
    | some (false, σ1) => some (false, σ1)
    | some (true, σ1) =>
      if isK σ1 1 = true then some (true, { σ1 with ts := σ1.ts.tail })
      else if isK σ1 9 = true ∧ (ndAt σ1.A n).t.k = 0 ∧ (ndAt σ1.A n).is ≠ [] then
        match behindM sz f dp n { σ1 with ts := σ1.ts.tail, A := setDot σ1.A n } with
        | none => none
        | some (false, σ2) => some (false, σ2)
        | some (true, σ2) => match skipsM sz f dp σ2 with
          | none => none
          | some (false, σ3) => some (false, σ3)
          | some (true, σ3) => some (closeM sz σ3)
      else match datumM sz f dp n σ1 with
        | none => none
        | some (false, σ2) => some (false, σ2)
        | some (true, σ2) => rowM sz f dp n σ2
end
/-- All data of a text. -/
def topM (sz : Nat) : Nat → Ps → Option Ps
  | 0, _ => none
  | f + 1, σ => match skipsM sz f 0 σ with
    | none => none
    | some (false, σ1) => some σ1
    | some (true, σ1) => if σ1.ts = [] then some σ1 else match datumM sz f 0 0 σ1 with
      | none => none
      | some (false, σ2) => some σ2
      | some (true, σ2) => topM sz f σ2
end Go.Proofs.YthjjgpepgbfalaaGreatDoor
end
section
/-! A slice of bytes that reads as these numbers; one of the call's own. -/
namespace Go.Proofs.YthjjgpepgbfalaaGreatDoor
open Go.RowKit

/-- A slice of bytes that reads as these numbers. -/
structure Bys (w : World) (p : Option Addr) (n : Nat) (bs : List Nat) : Prop where
  len : bs.length = n
  dig : ∀ x ∈ bs, x < 256
  inn : 0 < n → ∃ b o, p = some ⟨b, o, none⟩ ∧ ∀ i, i < n → w.cell? ⟨b, o + i, none⟩ = some (.int .u8 ((bs.getD i 0 : Nat) : Int))
theorem Bys.keep {w w' : World} {p : Option Addr} {n : Nat} {bs : List Nat} (h : Bys w p n bs) (hb : ∀ a : Addr, a.block < w.heap.size → w'.cell? a = w.cell? a) : Bys w' p n bs :=
  ⟨h.len, h.dig, fun hn => by
    obtain ⟨b, o, e, hc⟩ := h.inn hn
    exact ⟨b, o, e, fun i hi => (hb ⟨b, o + i, none⟩ (World.block_lt_of_cell? w _ (hc i hi))).trans (hc i hi)⟩⟩
theorem Bys.below {w w' : World} {p : Option Addr} {n : Nat} {bs : List Nat} (h : Bys w p n bs) (hb : Below w.heap.size w w') : Bys w' p n bs := h.keep fun _ ha => hb.cell ha
theorem map_getD (bs : List Nat) (i : Nat) : (bs.map Int.ofNat).getD i 0 = ((bs.getD i 0 : Nat) : Int) := by
  rw [List.getD_eq_getElem?_getD, List.getD_eq_getElem?_getD, List.getElem?_map]
  cases bs[i]? <;> rfl
theorem Bys.at {w : World} {p : Option Addr} {n : Nat} {bs : List Nat} (h : Bys w p n bs) (hn : 0 < n) :
    ∃ b o, p = some ⟨b, o, none⟩ ∧ ∀ i, i < n → w.cell? ⟨b, o + i, none⟩ = some (.int .u8 ((bs.getD i 0 : Nat) : Int)) := h.inn hn
theorem Bys.zero (w : World) (p : Option Addr) : Bys w p 0 [] := ⟨rfl, by simp, fun h => absurd h (Nat.lt_irrefl 0)⟩
theorem Bys.nil_ {w : World} {p : Option Addr} {bs : List Nat} (h : Bys w p 0 bs) : bs = [] := List.length_eq_zero_iff.1 h.len
theorem Bys.getD {w : World} {p : Option Addr} {n : Nat} {bs : List Nat} (h : Bys w p n bs) (i : Nat) : bs.getD i 0 < 256 := by
  rw [List.getD_eq_getElem?_getD]
  cases e : bs[i]? with
  | none => decide
  | some x => exact h.dig x (List.mem_of_getElem? e)
def u8s (bs : List Nat) : List Value := bs.map fun (x : Nat) => Value.int .u8 (x : Int)
theorem u8s_get (bs : List Nat) (i : Nat) (h : i < bs.length) : (u8s bs)[i]? = some (.int .u8 ((bs.getD i 0 : Nat) : Int)) := by
  unfold u8s
  rw [List.getElem?_map, List.getD_eq_getElem?_getD, List.getElem?_eq_getElem h]; rfl
theorem u8s_len (bs : List Nat) : (u8s bs).length = bs.length := by unfold u8s; simp
theorem u8s_one (bs : List Nat) : ∀ v ∈ u8s bs, v.oneCell' = true := by
  intro v hv
  obtain ⟨x, _, rfl⟩ := List.mem_map.1 hv
  rfl
/-- A slice of the call's own that reads as these numbers. -/
theorem Bys.of_row {w : World} {base g n c : Nat} {bs : List Nat} (h : w.ownsRow base 5 1 (.slice (some ⟨g, 0, none⟩) n c) n (u8s bs)) (hb : ∀ x ∈ bs, x < 256) : Bys w (some ⟨g, 0, none⟩) n bs := by
  have hl : bs.length = n := by have := h.1; rw [u8s_len] at this; omega
  refine ⟨hl, hb, fun _ => ⟨g, 0, rfl, fun i hi => ?_⟩⟩
  have h2 := World.ownsRow.cells (h : w.ownsRow base 5 1 _ n (u8s bs)) (g := g) rfl i _ (u8s_get bs i (by omega))
  rw [← Go.WideShapes.add_plain]
  exact h2
theorem Bys.own {w : World} {base n c : Nat} {p : Option Addr} {bs : List Nat} (h : w.ownsRow base 5 1 (.slice p n c) n (u8s bs)) (hb : ∀ x ∈ bs, x < 256) : Bys w p n bs := by
  have hl : bs.length = n := by have := h.1; rw [u8s_len] at this; omega
  rcases h.2 with ⟨h0, h1⟩ | ⟨g, cap, cur, e, _⟩
  · subst h1
    exact ⟨hl, hb, fun h => absurd h (Nat.lt_irrefl 0)⟩
  · cases e
    exact Bys.of_row h hb
theorem Tryz.info5 : (Tryz.prog.info? 5).map (fun i => (i.zero, i.size, i.bytes)) = some (some (.int .u8 0), 1, 1) := by kernel_rfl
theorem Bys.cells {w : World} {p : Option Addr} {n : Nat} {bs : List Nat} (h : Bys w p n bs) (hn : 0 < n) : ∃ ad, p = some ad ∧ ∀ j v, (u8s bs)[j]? = some v → w.cell? (ad.add j) = some v := by
  obtain ⟨b, o, e, hc⟩ := h.at hn
  refine ⟨_, e, fun j v hv => ?_⟩
  have hj : j < bs.length := by
    rcases Nat.lt_or_ge j bs.length with h1 | h1
    · exact h1
    · rw [List.getElem?_eq_none (by rw [u8s_len]; exact h1)] at hv; cases hv
  rw [u8s_get bs j hj] at hv
  cases hv
  rw [Go.WideShapes.add_plain]
  exact hc j (by rw [← h.len]; exact hj)
theorem own_below {w w' : World} {base E m : Nat} {v : Value} {n : Nat} {xs : List Value} (h : w.ownsRow base E m v n xs) (hb : Below w.heap.size w w') : w'.ownsRow base E m v n xs := by
  obtain ⟨h1, h2⟩ := h
  refine ⟨h1, ?_⟩
  rcases h2 with h2 | ⟨g, cap, cur, e, hbg, hg, hr⟩
  · exact .inl h2
  · exact .inr ⟨g, cap, cur, e, hbg, (hb.block g (by
      rcases Nat.lt_or_ge g w.heap.size with h3 | h3
      · exact h3
      · rw [Array.getElem?_eq_none h3] at hg; cases hg)).trans hg, hr⟩
theorem getD_take (a : List Nat) (k i : Nat) (h : i < k) : (a.take k).getD i 0 = a.getD i 0 := by
  rw [List.getD_eq_getElem?_getD, List.getD_eq_getElem?_getD, List.getElem?_take_of_lt h]
theorem getD_drop (a : List Nat) (k i : Nat) : (a.drop k).getD i 0 = a.getD (k + i) 0 := by
  rw [List.getD_eq_getElem?_getD, List.getD_eq_getElem?_getD, List.getElem?_drop]
theorem Bys.take {w : World} {p : Option Addr} {n : Nat} {bs : List Nat} (h : Bys w p n bs) {k : Nat} (hk : k ≤ n) : Bys w p k (bs.take k) :=
  ⟨by rw [List.length_take, h.len]; omega, fun x hx => h.dig x (List.mem_of_mem_take hx), fun hn => by
    obtain ⟨b, o, e, hc⟩ := h.at (by omega)
    exact ⟨b, o, e, fun i hi => by rw [hc i (by omega), getD_take _ _ _ hi]⟩⟩
theorem Bys.drop {w : World} {b o n : Nat} {bs : List Nat} (h : Bys w (some ⟨b, o, none⟩) n bs) {k j : Nat} (hk : k + j = n) : Bys w (some ⟨b, o + k, none⟩) j (bs.drop k) :=
  ⟨by rw [List.length_drop, h.len]; omega, fun x hx => h.dig x (List.mem_of_mem_drop hx), fun hn => by
    obtain ⟨b2, o2, e, hc⟩ := h.at (by omega)
    cases e
    exact ⟨b, o + k, rfl, fun i hi => by rw [Nat.add_assoc, hc (k + i) (by omega), getD_drop]⟩⟩
/-- The string of these bytes. -/
def strB (bs : List Nat) : ByteArray := strOfNums (bs.map Int.ofNat)
theorem strB_inj {xs ys : List Nat} (hx : ∀ x ∈ xs, x < 256) (hy : ∀ x ∈ ys, x < 256) (h : (strB xs).data.toList = (strB ys).data.toList) : xs = ys := by
  unfold strB at h
  rw [strOfNums_data, strOfNums_data] at h
  induction xs generalizing ys with
  | nil => cases ys with
    | nil => rfl
    | cons y ys => simp at h
  | cons x xs ih => cases ys with
    | nil => simp at h
    | cons y ys =>
      simp only [List.map_cons, List.cons.injEq] at h
      have h1 := congrArg UInt8.toNat h.1
      have hx1 := hx x (by simp)
      have hy1 := hy y (by simp)
      have e : x = y := by simpa [Nat.mod_eq_of_lt hx1, Nat.mod_eq_of_lt hy1] using h1
      rw [e, ih (fun z hz => hx z (by simp [hz])) (fun z hz => hy z (by simp [hz])) h.2]
/-- 'string(b)' of bytes. -/
theorem Bys.conv {w : World} {p : Option Addr} {n : Nat} {bs : List Nat} (h : Bys w p n bs) (c : Nat) :
    (convert 101 9 (.slice p n c)).run Tryz.prog w = .ok (.string (strB bs)) w := by
  have hl : (bs.map Int.ofNat).length = n := by rw [List.length_map, h.len]
  unfold strB
  rcases Nat.eq_zero_or_pos n with hn | hn
  · subst hn
    rw [List.eq_nil_of_length_eq_zero hl, run_convert_bytes_string w 101 9 5 p 0 c Tryz.underlying101 Tryz.underlying5 Tryz.underlying9]
    cases p with
    | none => simp [Conv.bytesToString]; rfl
    | some a => simp [Conv.bytesToString, loadCells]; rfl
  · obtain ⟨b, o, rfl, hc⟩ := h.at hn
    exact run_convert_bytes_arg (P := Tryz.prog) w 101 5 Tryz.underlying101 Tryz.underlying5 b o n c _ hl (fun i hi => by rw [hc i hi, map_getD]) 9 Tryz.underlying9
theorem Bys.other {w w' : World} {g : Nat} {p : Option Addr} {n : Nat} {bs : List Nat} (h : Bys w p n bs) (hp : 0 < n → ∀ b o, p = some ⟨b, o, none⟩ → b ≠ g) (hb : ∀ a : Addr, a.block ≠ g → w'.cell? a = w.cell? a) : Bys w' p n bs :=
  ⟨h.len, h.dig, fun hn => by
    obtain ⟨b, o, e, hc⟩ := h.inn hn
    exact ⟨b, o, e, fun i hi => (hb ⟨b, o + i, none⟩ (hp hn _ _ e)).trans (hc i hi)⟩⟩
theorem Bys.lt {w : World} {p : Option Addr} {n : Nat} {bs : List Nat} (h : Bys w p n bs) (hn : 0 < n) : ∀ b o, p = some ⟨b, o, none⟩ → b < w.heap.size := by
  intro b0 o0 e
  obtain ⟨b, o, e2, hc⟩ := h.inn hn
  rw [e] at e2
  cases e2
  exact World.block_lt_of_cell? w _ (hc 0 hn)
end Go.Proofs.YthjjgpepgbfalaaGreatDoor
end
section
/-! The memory of objects, as a model: what is at its places. -/
namespace Go.Proofs.YthjjgpepgbfalaaGreatDoor
open Go.RowKit

/-- An object: its kind, its values, its bytes. -/
structure Ob where
  k : Int
  vs : List (Int × Int)
  bs : List Nat
/-- What is at a place. -/
structure Cl where
  o : Ob
  num : Nat
  away : Bool
  ch : Bool
abbrev Pls := List (Option Cl)
def clAt (L : Pls) (i : Nat) : Option Cl := L.getD i none
theorem clAt_ge {L : Pls} {i : Nat} (h : L.length ≤ i) : clAt L i = none := by
  unfold clAt; rw [List.getD_eq_getElem?_getD, List.getElem?_eq_none h]; rfl
theorem clAt_some {L : Pls} {i : Nat} {c : Cl} (h : clAt L i = some c) : i < L.length := by
  rcases Nat.lt_or_ge i L.length with h1 | h1
  · exact h1
  · rw [clAt_ge h1] at h; cases h
theorem clAt_get {L : Pls} {i : Nat} (h : i < L.length) : L[i] = clAt L i := by
  unfold clAt; rw [List.getD_eq_getElem?_getD, List.getElem?_eq_getElem h]; rfl
theorem clAt_set {L : Pls} {i j : Nat} {c : Option Cl} (h : i < L.length) : clAt (L.set i c) j = if j = i then c else clAt L j := by
  unfold clAt
  rw [List.getD_eq_getElem?_getD, List.getD_eq_getElem?_getD, List.getElem?_set]
  by_cases e : i = j
  · subst e; rw [if_pos rfl, if_pos rfl, if_pos h]; rfl
  · rw [if_neg e, if_neg (Ne.symm e)]
theorem clAt_snoc {L : Pls} {j : Nat} {c : Option Cl} : clAt (L ++ [c]) j = if j = L.length then c else clAt L j := by
  unfold clAt
  rw [List.getD_eq_getElem?_getD, List.getD_eq_getElem?_getD]
  rcases Nat.lt_trichotomy j L.length with h | h | h
  · rw [List.getElem?_append_left h, if_neg (by omega)]
  · subst h; simp
  · rw [List.getElem?_eq_none (by simp; omega), if_neg (by omega), List.getElem?_eq_none (by omega)]
/-- How many objects there are. -/
def liveN (L : Pls) : Nat := L.countP fun c => c.isSome
theorem liveN_le (L : Pls) : liveN L ≤ L.length := List.countP_le_length
theorem liveN_snoc (L : Pls) (c : Cl) : liveN (L ++ [some c]) = liveN L + 1 := by unfold liveN; rw [List.countP_append]; rfl
theorem liveN_cons (c : Option Cl) (L : Pls) : liveN (c :: L) = liveN L + (if c.isSome then 1 else 0) := by unfold liveN; rw [List.countP_cons]
theorem liveN_set_some {L : Pls} {i : Nat} (c : Cl) (h : i < L.length) (hn : clAt L i = none) : liveN (L.set i (some c)) = liveN L + 1 := by
  induction L generalizing i with
  | nil => simp at h
  | cons d L ih =>
    cases i with
    | zero => have : d = none := hn; subst this; rw [List.set_cons_zero, liveN_cons, liveN_cons]; rfl
    | succ i =>
      have hn2 : clAt L i = none := hn
      rw [List.set_cons_succ, liveN_cons, liveN_cons, ih (by simpa using h) hn2]; omega
theorem liveN_set_same {L : Pls} {i : Nat} (c c' : Cl) (h : clAt L i = some c') : liveN (L.set i (some c)) = liveN L := by
  induction L generalizing i with
  | nil => cases h
  | cons d L ih =>
    cases i with
    | zero => have : d = some c' := h; subst this; rw [List.set_cons_zero, liveN_cons, liveN_cons]; rfl
    | succ i =>
      have hn2 : clAt L i = some c' := h
      rw [List.set_cons_succ, liveN_cons, liveN_cons, ih hn2]
/-- The least place without an object. -/
def gapH (L : Pls) : Nat := L.findIdx fun c => !c.isSome
theorem gapH_le (L : Pls) : gapH L ≤ L.length := List.findIdx_le_length
theorem gapH_live {L : Pls} {j : Nat} (h : j < gapH L) : ∃ c, clAt L j = some c := by
  have hl : j < L.length := Nat.lt_of_lt_of_le h (gapH_le L)
  have := List.not_of_lt_findIdx h
  rw [clAt_get hl] at this
  cases hc : clAt L j with
  | none => rw [hc] at this; simp at this
  | some c => exact ⟨c, rfl⟩
theorem gapH_none (L : Pls) : clAt L (gapH L) = none := by
  rcases Nat.lt_or_ge (gapH L) L.length with h | h
  · have this : (!(L[gapH L]).isSome) = true := List.findIdx_getElem (w := h)
    rw [clAt_get h] at this
    cases hc : clAt L (gapH L) with
    | none => rfl
    | some c => rw [hc] at this; simp at this
  · exact clAt_ge h
theorem gapH_eq {L : Pls} {i : Nat} (hl : ∀ j, j < i → ∃ c, clAt L j = some c) (hn : clAt L i = none) : gapH L = i := by
  rcases Nat.lt_trichotomy (gapH L) i with h | h | h
  · obtain ⟨c, hc⟩ := hl _ h
    rw [gapH_none] at hc; cases hc
  · exact h
  · obtain ⟨c, hc⟩ := gapH_live h
    rw [hn] at hc; cases hc
theorem liveN_full {L : Pls} (h : gapH L = L.length) : liveN L = L.length := by
  unfold liveN
  rw [List.countP_eq_length]
  intro c hc
  obtain ⟨i, hi, e⟩ := List.getElem_of_mem hc
  obtain ⟨d, hd⟩ := gapH_live (L := L) (j := i) (by rw [h]; exact hi)
  rw [clAt_get hi, hd] at e
  rw [← e]; rfl
/-- The cell put at a place, or behind the last one. -/
def putH (L : Pls) (i : Nat) (c : Cl) : Pls := if i = L.length then L ++ [some c] else L.set i (some c)
theorem clAt_put {L : Pls} {i j : Nat} {c : Cl} (h : i ≤ L.length) : clAt (putH L i c) j = if j = i then some c else clAt L j := by
  unfold putH
  split
  · rename_i e; rw [clAt_snoc, e]
  · rw [clAt_set (by omega)]
theorem putH_len {L : Pls} {i : Nat} {c : Cl} (h : i ≤ L.length) : (putH L i c).length = max L.length (i + 1) := by
  unfold putH
  split
  · rename_i e; rw [List.length_append]; simp; omega
  · rw [List.length_set]; omega
theorem liveN_put {L : Pls} {i : Nat} (c : Cl) (h : i ≤ L.length) (hn : clAt L i = none) : liveN (putH L i c) = liveN L + 1 := by
  unfold putH
  split
  · exact liveN_snoc L c
  · exact liveN_set_some c (by omega) hn
/-- Is a value a reference to an object? -/
def hasP (L : Pls) (v : Int × Int) : Bool := decide (v.1 = 8 ∧ 0 ≤ v.2) && (clAt L v.2.toNat).isSome
theorem hasP_iff {L : Pls} {v : Int × Int} : hasP L v = true ↔ v.1 = 8 ∧ 0 ≤ v.2 ∧ ∃ c, clAt L v.2.toNat = some c := by
  unfold hasP
  rw [Bool.and_eq_true, decide_eq_true_iff, Option.isSome_iff_exists]
  exact ⟨fun h => ⟨h.1.1, h.1.2, h.2⟩, fun h => ⟨⟨h.1, h.2.1⟩, h.2.2⟩⟩
/-- May a value be? -/
def mayV (L : Pls) (v : Int × Int) : Bool := if v.1 = 8 then hasP L v else decide (0 ≤ v.1 ∧ v.1 < 9)
def lowV (k : Int) : Nat := if k = 0 ∨ k = 5 ∨ k = 8 then 2 else if k = 4 then 1 else 0
def highV (k : Int) : Nat := if k = 0 ∨ k = 5 ∨ k = 8 then 2 else if k = 4 then 1 else if k = 2 ∨ k = 3 then 0 else 256
def highB (k : Int) : Nat := if k = 2 ∨ k = 3 then 4096 else 0
/-- May an object be? -/
def mayO (L : Pls) (o : Ob) : Bool := decide (0 ≤ o.k ∧ o.k < 14) && (decide (lowV o.k ≤ o.vs.length ∧ o.vs.length ≤ highV o.k) && decide (o.bs.length ≤ highB o.k)) && o.vs.all (mayV L)
/-- The memory. -/
structure Hm where
  lim : Nat
  L : Pls
  least : Nat
  by_ : Value
  fet : Nat
  f : Nat → Option Nat
/-- What holds of one. -/
structure Hm.Ok (m : Hm) : Prop where
  l0 : 1 ≤ m.lim
  l1 : m.lim ≤ 16384
  len : m.L.length ≤ m.lim
  least : m.least ≤ m.L.length
  full : ∀ i, i < m.least → ∃ c, clAt m.L i = some c
  fet : m.fet ≤ 16384
  num : ∀ i c, clAt m.L i = some c → c.num ≤ 16384
  f1 : ∀ n i, m.f n = some i → n ≠ 0 ∧ ∃ c, clAt m.L i = some c ∧ c.num = n
  f2 : ∀ i c, clAt m.L i = some c → c.num ≠ 0 → m.f c.num = some i
theorem Hm.Ok.least_gap {m : Hm} (h : m.Ok) : m.least ≤ gapH m.L := by
  rcases Nat.lt_or_ge (gapH m.L) m.least with h1 | h1
  · obtain ⟨c, hc⟩ := h.full _ h1
    rw [gapH_none] at hc; cases hc
  · exact h1
/-- An object laid at the least place. -/
def Hm.lay (m : Hm) (c : Cl) : Hm := { m with L := putH m.L (gapH m.L) c, least := gapH m.L + 1 }
theorem Hm.Ok.lay {m : Hm} (h : m.Ok) {c : Cl} (hc : c.num = 0) (hr : liveN m.L < m.lim) : (m.lay c).Ok := by
  have hg := gapH_le m.L
  have hlen : (putH m.L (gapH m.L) c).length ≤ m.lim := by
    rw [putH_len hg]
    have := h.len
    rcases Nat.lt_or_ge (gapH m.L) m.L.length with h1 | h1
    · omega
    · have h2 : gapH m.L = m.L.length := by omega
      have := liveN_full h2
      omega
  refine ⟨h.l0, h.l1, hlen, ?_, ?_, h.fet, ?_, ?_, ?_⟩
  · show gapH m.L + 1 ≤ (putH m.L (gapH m.L) c).length
    rw [putH_len hg]; omega
  · intro i hi
    show ∃ d, clAt (putH m.L (gapH m.L) c) i = some d
    rw [clAt_put hg]
    split
    · exact ⟨c, rfl⟩
    · have : i < gapH m.L + 1 := hi
      exact gapH_live (by omega)
  · intro i d hd
    have hd2 : clAt (putH m.L (gapH m.L) c) i = some d := hd
    rw [clAt_put hg] at hd2
    split at hd2
    · cases hd2; omega
    · exact h.num i d hd2
  · intro n i hf
    obtain ⟨h0, d, hd, hn⟩ := h.f1 n i hf
    refine ⟨h0, d, ?_, hn⟩
    show clAt (putH m.L (gapH m.L) c) i = some d
    rw [clAt_put hg, if_neg]
    · exact hd
    · intro e; rw [e, gapH_none] at hd; cases hd
  · intro i d hd h0
    have hd2 : clAt (putH m.L (gapH m.L) c) i = some d := hd
    rw [clAt_put hg] at hd2
    split at hd2
    · cases hd2; omega
    · exact h.f2 i d hd2 h0
/-- An object changed, its number left. -/
def Hm.set (m : Hm) (i : Nat) (c : Cl) : Hm := { m with L := m.L.set i (some c) }
theorem Hm.Ok.set {m : Hm} (h : m.Ok) {i : Nat} {c d : Cl} (hd : clAt m.L i = some d) (hn : c.num = d.num) : (m.set i c).Ok := by
  have hi := clAt_some hd
  have hat : ∀ j, clAt (m.L.set i (some c)) j = if j = i then some c else clAt m.L j := fun j => clAt_set hi
  refine ⟨h.l0, h.l1, by show (m.L.set i (some c)).length ≤ _; rw [List.length_set]; exact h.len, by show _ ≤ (m.L.set i (some c)).length; rw [List.length_set]; exact h.least, ?_, h.fet, ?_, ?_, ?_⟩
  · intro j hj
    show ∃ d, clAt (m.L.set i (some c)) j = some d
    rw [hat]
    split
    · exact ⟨c, rfl⟩
    · exact h.full j hj
  · intro j e he
    have he2 : clAt (m.L.set i (some c)) j = some e := he
    rw [hat] at he2
    split at he2
    · cases he2; rw [hn]; exact h.num i d hd
    · exact h.num j e he2
  · intro n j hf
    obtain ⟨h0, e, he, hn2⟩ := h.f1 n j hf
    by_cases hj : j = i
    · subst hj
      rw [hd] at he; cases he
      exact ⟨h0, c, by show clAt (m.L.set j (some c)) j = some c; rw [hat, if_pos rfl], by rw [hn, hn2]⟩
    · exact ⟨h0, e, by show clAt (m.L.set i (some c)) j = some e; rw [hat, if_neg hj]; exact he, hn2⟩
  · intro j e he h0
    have he2 : clAt (m.L.set i (some c)) j = some e := he
    rw [hat] at he2
    split at he2
    · rename_i hj; cases he2; rw [hj, hn]; exact h.f2 i d hd (by rw [← hn]; exact h0)
    · exact h.f2 j e he2 h0
/-- An object dropped (its number was taken away). -/
def Hm.drop (m : Hm) (i : Nat) : Hm := { m with L := m.L.set i none, least := min m.least i }
theorem Hm.Ok.drop {m : Hm} (h : m.Ok) {i : Nat} {d : Cl} (hd : clAt m.L i = some d) (h0 : d.num = 0) : (m.drop i).Ok := by
  have hi := clAt_some hd
  have hat : ∀ j, clAt (m.L.set i none) j = if j = i then none else clAt m.L j := fun j => clAt_set hi
  refine ⟨h.l0, h.l1, by show (m.L.set i _).length ≤ _; rw [List.length_set]; exact h.len, by show min m.least i ≤ (m.L.set i _).length; rw [List.length_set]; have := h.least; omega, ?_, h.fet, ?_, ?_, ?_⟩
  · intro j hj
    have hj2 : j < min m.least i := hj
    show ∃ e, clAt (m.L.set i none) j = some e
    rw [hat, if_neg (by omega)]
    exact h.full j (by omega)
  · intro j e he
    have he2 : clAt (m.L.set i none) j = some e := he
    rw [hat] at he2
    split at he2
    · cases he2
    · exact h.num j e he2
  · intro n j hf
    obtain ⟨hn, e, he, hn2⟩ := h.f1 n j hf
    refine ⟨hn, e, ?_, hn2⟩
    show clAt (m.L.set i none) j = some e
    rw [hat, if_neg]
    · exact he
    · intro e2; subst e2; rw [hd] at he; cases he; omega
  · intro j e he hn
    have he2 : clAt (m.L.set i none) j = some e := he
    rw [hat] at he2
    split at he2
    · cases he2
    · exact h.f2 j e he2 hn
end Go.Proofs.YthjjgpepgbfalaaGreatDoor
end
section
/-! Rows of a call's own. -/
namespace Go.Proofs.YthjjgpepgbfalaaGreatDoor
open Go.RowKit

theorem own_head {w : World} {base E m n : Nat} {v : Value} {xs : List Value} {g : Nat} (h : w.ownsRow base E m v n xs) (hg : v.ownBlock = some g) : ∃ cur, w.heap[g]? = some (.cells cur E (0, 0)) := by
  rcases h.2 with ⟨rfl, _⟩ | ⟨g', cap, cur, rfl, _, hh, _⟩
  · simp [Value.ownBlock] at hg
  · simp [Value.ownBlock] at hg
    subst hg
    exact ⟨cur, hh⟩
theorem own_other {w w' : World} {base E m n : Nat} {v : Value} {xs : List Value} (h : w.ownsRow base E m v n xs) (hb : ∀ g, v.ownBlock = some g → w'.heap[g]? = w.heap[g]?) : w'.ownsRow base E m v n xs := by
  refine ⟨h.1, ?_⟩
  rcases h.2 with h2 | ⟨g, cap, cur, rfl, hb2, hg, hr⟩
  · exact .inl h2
  · exact .inr ⟨g, cap, cur, rfl, hb2, (hb g rfl).trans hg, hr⟩
theorem base0 {w : World} {base E m n : Nat} {v : Value} {xs : List Value} (h : w.ownsRow base E m v n xs) : w.ownsRow 0 E m v n xs := by
  refine ⟨h.1, ?_⟩
  rcases h.2 with h2 | ⟨g, cap, cur, e, hb, hg, hr⟩
  · exact .inl h2
  · exact .inr ⟨g, cap, cur, e, Nat.zero_le _, hg, hr⟩
theorem own_form {w : World} {base E m n : Nat} {v : Value} {xs : List Value} (h : w.ownsRow base E m v n xs) : ∃ (q : Option Addr) (c : Nat), v = .slice q n c := by
  rcases h.2 with ⟨rfl, hx⟩ | ⟨g, cap, cur, e, _⟩
  · have := h.1
    subst hx
    exact ⟨none, 0, rfl⟩
  · exact ⟨_, _, e⟩
/-- A row's form where it has an element. -/
theorem own_some {w : World} {base E m n : Nat} {v : Value} {xs : List Value} (h : w.ownsRow base E m v n xs) (hn : 0 < n) : ∃ (g c : Nat), v = .slice (some ⟨g, 0, none⟩) n c := by
  rcases h.2 with ⟨rfl, hx⟩ | ⟨g, cap, cur, e, _⟩
  · exact absurd hx (by omega)
  · exact ⟨g, cap, e⟩
theorem own_cap {w : World} {base E m n b c : Nat} {xs : List Value} (h : w.ownsRow base E m (.slice (some ⟨b, 0, none⟩) n c) n xs) : n ≤ c := by
  rcases h.2 with ⟨e, _⟩ | ⟨g', cap, cur, e, _, _, h1, _⟩
  · cases e
  · cases e; exact h1
theorem own_lt {w : World} {base E m n b : Nat} {v : Value} {xs : List Value} (h : w.ownsRow base E m v n xs) (hb : v.ownBlock = some b) : b < w.heap.size := by
  obtain ⟨cur, hc⟩ := own_head h hb; exact lt_of_block hc
theorem own_ge {w : World} {base E m n b : Nat} {v : Value} {xs : List Value} (h : w.ownsRow base E m v n xs) (hb : v.ownBlock = some b) : base ≤ b := by
  rcases h.2 with ⟨rfl, _⟩ | ⟨g', cap, cur, rfl, hb2, hh, _⟩
  · simp [Value.ownBlock] at hb
  · simp [Value.ownBlock] at hb; omega
theorem ne_of_ty {w : World} {a b : Nat} {cs ds : Array Value} {t u : Nat} {fr fs : Nat × Nat} (h : w.heap[a]? = some (.cells cs t fr)) (k : w.heap[b]? = some (.cells ds u fs)) (ht : t ≠ u) : a ≠ b := by
  rintro rfl
  rw [h] at k
  cases k
  exact ht rfl
end Go.Proofs.YthjjgpepgbfalaaGreatDoor
end
section
/-! A call that changes one block alone. -/
namespace Go.Proofs.YthjjgpepgbfalaaGreatDoor
open Go.RowKit

structure Only (g : Nat) (w w' : World) : Prop where
  os : w'.os = w.os
  tape : w'.tape = w.tape
  output : w'.output = w.output
  size : w.heap.size ≤ w'.heap.size
  block : ∀ k, k < w.heap.size → k ≠ g → w'.heap[k]? = w.heap[k]?
theorem Only.refl (g : Nat) (w : World) : Only g w w := ⟨rfl, rfl, rfl, Nat.le_refl _, fun _ _ _ => rfl⟩
theorem Only.trans {g : Nat} {a b c : World} (h : Only g a b) (k : Only g b c) : Only g a c :=
  ⟨k.os.trans h.os, k.tape.trans h.tape, k.output.trans h.output, Nat.le_trans h.size k.size, fun i hi hg => (k.block i (Nat.lt_of_lt_of_le hi h.size) hg).trans (h.block i hi hg)⟩
theorem Only.of_below {g : Nat} {w w' : World} (h : Below w.heap.size w w') : Only g w w' := ⟨h.os, h.tape, h.output, h.size, fun k hk _ => h.block k hk⟩
theorem Only.below {g B : Nat} {a w w' : World} (h : Only g w w') (hb : Below B a w) (hB : B ≤ w.heap.size) (hg : B ≤ g) : Below B a w' :=
  hb.trans ⟨h.os, h.tape, h.output, h.size, fun k hk => h.block k (by omega) (by omega)⟩
theorem Only.setCell (g i : Nat) (v : Value) (w : World) : Only g w (w.setCell ⟨g, i, none⟩ v) :=
  have h := (Below.refl 0 w).setCell (p := ⟨g, i, none⟩) (Nat.zero_le _) v
  ⟨h.os, h.tape, h.output, h.size, fun k _ hg => Below.heap_setCell w _ v k (fun e => hg (by rw [e]))⟩
theorem Only.drew {g : Nat} {w w' : World} (h : Only g w w') : Only g w w'.drew := ⟨h.os, h.tape, h.output, h.size, h.block⟩
/-- Bytes that lie in a row of the call's own. -/
def Row5 (w : World) (g N : Nat) (us : List Nat) : Prop := w.ownsRow 0 5 1 (.slice (some ⟨g, 0, none⟩) N N) N (u8s us)
theorem Row5.len {w : World} {g N : Nat} {us : List Nat} (h : Row5 w g N us) : us.length = N := by
  have := h.1; rw [u8s_len] at this; omega
theorem Row5.head {w : World} {g N : Nat} {us : List Nat} (h : Row5 w g N us) : ∃ cur, w.heap[g]? = some (.cells cur 5 (0, 0)) := by
  rcases h.2 with ⟨h, _⟩ | ⟨g', cap, cur, h, _, hh, _⟩
  · cases h
  · cases h; exact ⟨cur, hh⟩
theorem Row5.lt {w : World} {g N : Nat} {us : List Nat} (h : Row5 w g N us) : g < w.heap.size := by
  obtain ⟨cur, h⟩ := h.head
  exact lt_of_block h
theorem Row5.same {w w' : World} {g N : Nat} {us : List Nat} (h : Row5 w g N us) (hb : w'.heap[g]? = w.heap[g]?) : Row5 w' g N us :=
  own_other h fun k e => by simp [Value.ownBlock] at e; subst e; exact hb
theorem Row5.below {w w' : World} {g N : Nat} {us : List Nat} (h : Row5 w g N us) (hb : Below w.heap.size w w') : Row5 w' g N us := own_below h hb
theorem Row5.cell {w : World} {g N : Nat} {us : List Nat} (h : Row5 w g N us) (i : Nat) (hi : i < N) : w.cell? ⟨g, i, none⟩ = some (.int .u8 ((us.getD i 0 : Nat) : Int)) :=
  (World.ownsRow.cellAt h i (by omega)).trans (u8s_get us i (by rw [h.len]; exact hi))
theorem Row5.fz {w : World} {g N : Nat} {us : List Nat} (h : Row5 w g N us) (i : Nat) : w.frozen? ⟨g, i, none⟩ = false := World.ownsRow.frozenAt h i
theorem Row5.put {w : World} {g N : Nat} {us : List Nat} (h : Row5 w g N us) (i x : Nat) : Row5 (w.setCell ⟨g, i, none⟩ (.int .u8 (x : Int))) g N (us.set i x) := by
  have h2 := (World.ownsRow.stored h i (.int .u8 (x : Int))).1
  have e : u8s (us.set i x) = (u8s us).set i (.int .u8 (x : Int)) := by unfold u8s; rw [List.map_set]
  unfold Row5
  rw [e]; exact h2
theorem alloc_below (u : World) (o : Obj) : Below u.heap.size u (u.alloc o) := (Below.refl _ _).alloc (Nat.le_refl _) _
theorem Below.more {B : Nat} {w a b : World} (h : Below B w a) (k : Below a.heap.size a b) (hB : B ≤ a.heap.size) : Below B w b := h.trans (Below.mono k hB)
theorem Only.then {g B : Nat} {a b c : World} (h : Only g a b) (hb : Below B b c) (hB : a.heap.size ≤ B) : Only g a c :=
  ⟨hb.os.trans h.os, hb.tape.trans h.tape, hb.output.trans h.output, Nat.le_trans h.size hb.size, fun k hk hg => (hb.block k (by omega)).trans (h.block k hk hg)⟩
theorem Bys.only {w w' : World} {g n : Nat} {p : Option Addr} {bs : List Nat} (h : Bys w p n bs) (ho : Only g w w') (hp : ∀ b o, p = some ⟨b, o, none⟩ → b ≠ g) : Bys w' p n bs :=
  ⟨h.len, h.dig, fun hn => by
    obtain ⟨b, o, e, hc⟩ := h.inn hn
    have hlt := World.block_lt_of_cell? w _ (hc 0 hn)
    exact ⟨b, o, e, fun i hi => (World.cell?_of_block (ho.block b hlt (hp b o e))).trans (hc i hi)⟩⟩
end Go.Proofs.YthjjgpepgbfalaaGreatDoor
end
