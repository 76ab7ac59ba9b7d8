/- What package lex makes of texts, as plain functions on lists of bytes. -/
import Derived.Test.YtjpbbooeihdnfaaDoorNParse
import Derived.Lib.Bytealg
import Derived.Lib.IndexMore
namespace Go.Proofs.YtjpbbooeihdnfaaDoor

def isDig (c : UInt8) : Bool := decide (48 ≤ c.toNat) && decide (c.toNat ≤ 57)
def wMarks : List UInt8 := [33, 36, 37, 38, 42, 47, 58, 60, 61, 62, 63, 94, 95, 126, 43, 45, 46, 64, 35]
/-- May a byte stand in a word? -/
def inW (c : UInt8) : Bool := (decide (97 ≤ c.toNat) && decide (c.toNat ≤ 122)) || (decide (65 ≤ c.toNat) && decide (c.toNat ≤ 90)) || isDig c || wMarks.contains c
def isBlank (c : UInt8) : Bool := [9, 10, 12, 13, 32].contains c
def parts (c : UInt8) : Bool := [9, 10, 12, 13, 32, 59, 40, 41, 34].contains c
/-- How many bytes ahead are of a kind. -/
def pre (p : UInt8 → Bool) (L : List UInt8) : Nat := (L.takeWhile p).length
def wordK (L : List UInt8) : Nat := if [35, 92].isPrefixOf L then min 3 L.length else 0
def wsz (L : List UInt8) : Nat := wordK L + pre inW (L.drop (wordK L))
def lineSz (L : List UInt8) : Nat := pre (· != 10) L
/-- The end of a remark, of which some are open, behind i bytes; 0: it has none. -/
def remGo : List UInt8 → Int → Nat → Nat
  | a :: b :: t, o, i =>
    if a = 35 ∧ b = 124 then (if o + 1 = 0 then i + 2 else remGo t (o + 1) (i + 2))
    else if a = 124 ∧ b = 35 then (if o - 1 = 0 then i + 2 else remGo t (o - 1) (i + 2))
    else if o = 0 then i + 1 else remGo (b :: t) o (i + 1)
  | _, _, _ => 0
def remSz (L : List UInt8) : Nat := remGo L 0 0
/-- The first byte that may stand in no text. -/
def hiB (L : List UInt8) : Option Nat := L.findIdx? fun c => decide (128 ≤ c.toNat)
def qGo : List UInt8 → Nat → Nat
  | [], _ => 0
  | c :: t, i => if c = 34 then i + 1 else if c = 92 then (match t with | [] => 0 | _ :: u => qGo u (i + 2)) else qGo t (i + 1)
def qsz (L : List UInt8) : Nat := qGo (L.drop 1) 1
/-- The byte of hex digits. -/
def byteOk (h : List UInt8) : Bool := !(h == [] || h.head? == some 43 || h.head? == some 45) && (parseE 16 h == 0 && decide (parseV 16 h < 128))
def byteO (h : List UInt8) : Option Nat := if byteOk h = true then some (parseV 16 h).toNat else none
def escL : List UInt8 := [34, 92, 110, 116, 114, 97, 98]
def escB : List UInt8 := [34, 92, 10, 9, 13, 7, 8]
/-- The byte of the escape that a text begins with, and its size; 0: it is none. -/
def esc (L : List UInt8) : Nat × Nat :=
  if escL.contains (L.getD 1 0) then ((escB.getD (escL.idxOf (L.getD 1 0)) 0).toNat, 2)
  else if [92, 120].isPrefixOf L = true ∧ (L.drop 2).contains 59 = true ∧ byteOk ((L.drop 2).takeWhile (· != 59)) = true then
    ((parseV 16 ((L.drop 2).takeWhile (· != 59))).toNat, ((L.drop 2).takeWhile (· != 59)).length + 3)
  else (0, 0)
/-- What stands between the quotes, or the place of the first fault. -/
def unq : Nat → List UInt8 → Nat → Except Nat (List UInt8)
  | 0, _, _ => .ok []
  | _ + 1, [], _ => .ok []
  | f + 1, c :: t, i =>
    let r := if c = 92 then esc (c :: t) else (c.toNat, 1)
    if r.2 = 0 ∨ 128 ≤ r.1 then .error i else
      match unq f ((c :: t).drop r.2) (i + r.2) with
      | .ok l => .ok (UInt8.ofNat r.1 :: l)
      | .error j => .error j
/-- A token, but for its place. -/
structure Tk where
  k : Nat
  n : Int
  s : List UInt8
deriving DecidableEq
def cutB (L : List UInt8) : Nat × List UInt8 :=
  if L.length < 2 ∨ L.getD 0 0 ≠ 35 then (10, L)
  else if L.getD 1 0 = 98 then (2, L.drop 2)
  else if L.getD 1 0 = 111 then (8, L.drop 2)
  else if L.getD 1 0 = 100 then (10, L.drop 2)
  else if L.getD 1 0 = 120 then (16, L.drop 2)
  else (10, L)
def nms : List (List UInt8 × Nat) := [([110, 117, 108], 0), ([115, 112, 97, 99, 101], 32), ([110, 101, 119, 108, 105, 110, 101], 10), ([116, 97, 98], 9), ([114, 101, 116, 117, 114, 110], 13), ([101, 115, 99, 97, 112, 101], 27), ([100, 101, 108, 101, 116, 101], 127), ([97, 108, 97, 114, 109], 7), ([98, 97, 99, 107, 115, 112, 97, 99, 101], 8)]
/-- The number of a character, behind its mark. -/
def charO (r : List UInt8) : Option Nat :=
  if r.length = 1 then some (r.getD 0 0).toNat
  else match nms.lookup r with
  | some n => some n
  | none => if [120].isPrefixOf r then byteO (r.drop 1) else none
def chrO (L : List UInt8) : Option Nat := if [35, 92].isPrefixOf L then charO (L.drop 2) else none
def begN (L : List UInt8) : Bool := isDig (L.getD 0 0) || (decide (1 < L.length) && (L.getD 0 0 == 43 || L.getD 0 0 == 45) && isDig (L.getD 1 0))
def boolO (L : List UInt8) : Option Int := if L = [35, 116] ∨ L = [35, 116, 114, 117, 101] then some 1 else if L = [35, 102] ∨ L = [35, 102, 97, 108, 115, 101] then some 0 else none
/-- What a word is, and the error's number. -/
def wordM (L : List UInt8) : Tk × Int :=
  if L = [46] then (⟨9, 0, []⟩, 0)
  else if parseE (cutB L).1 (cutB L).2 ≠ 4 then (⟨10, parseV (cutB L).1 (cutB L).2, []⟩, parseE (cutB L).1 (cutB L).2)
  else match boolO L with
  | some b => (⟨11, b, []⟩, 0)
  | none => match chrO L with
    | some n => (⟨12, n, []⟩, 0)
    | none => if L = [] ∨ L.contains 35 = true ∨ begN L = true then (⟨0, 0, []⟩, 4) else if 32 < L.length then (⟨0, 0, []⟩, 2) else (⟨14, 0, L⟩, 0)
def mks : List (List UInt8) := [[40], [41], [35, 40], [35, 117, 56, 40], [39], [96], [44], [44, 64], [35, 59]]
/-- The mark that a text begins with. -/
def markGo (L : List UInt8) : Nat → Option Nat
  | 0 => none
  | k + 1 => if (mks.getD k []).isPrefixOf L then some k else markGo L k
def markO (L : List UInt8) : Option Nat := markGo L 9
/-- The label that a text begins with: 15 or 16, its number, its size. -/
def labO (L : List UInt8) : Option (Nat × Int × Nat) :=
  if [35].isPrefixOf L then
    let r := L.drop 1
    let d := r.takeWhile isDig
    if d.length < 1 ∨ 3 < d.length ∨ d.length = r.length then none
    else if r.getD d.length 0 = 61 then some (15, parseV 10 d, d.length + 2)
    else if r.getD d.length 0 = 35 then some (16, parseV 10 d, d.length + 2)
    else none
  else none
/-- What stands at the beginning of a text: a fault (where, which), so many bytes that are no token, or a token with its size, and whether it wants to be parted. -/
inductive St where
  | err (i : Nat) (e : Int)
  | pass (n : Nat)
  | tok (t : Tk) (n : Nat) (b : Bool)
deriving DecidableEq
def passM (L : List UInt8) (n : Nat) : St := if n = 0 then .err 0 3 else match hiB (L.take n) with | some h => .err h 4 | none => .pass n
def quotM (L : List UInt8) : St :=
  if qsz L = 0 then .err 0 3 else match unq (qsz L) ((L.take (qsz L - 1)).drop 1) 0 with
  | .error j => .err (1 + j) 4
  | .ok l => .tok ⟨13, 0, l⟩ (qsz L) true
def wrdM (L : List UInt8) : St :=
  if (wordM (L.take (wsz L))).2 ≠ 0 then .err 0 (wordM (L.take (wsz L))).2 else match hiB (L.take (wsz L)) with
  | some h => .err h 4
  | none => .tok (wordM (L.take (wsz L))).1 (L.take (wsz L)).length true
def stepM (L : List UInt8) : St :=
  match L with
  | [] => .err 0 4
  | c :: _ =>
    if isBlank c then passM L 1
    else if c = 59 then passM L (lineSz L)
    else if [35, 124].isPrefixOf L then passM L (remSz L)
    else if c = 34 then quotM L
    else match markO L with
    | some k => .tok ⟨k, 0, []⟩ (mks.getD k []).length false
    | none => match labO L with
      | some (k, n, z) => .tok ⟨k, n, []⟩ z (decide (k = 16))
      | none => wrdM L
/-- The tokens of a text from a place on, with their places; or the first fault. -/
def scanM (L : List UInt8) : Nat → Nat → Bool → List (Tk × Nat) → (Option (List (Tk × Nat))) × Nat × Int
  | 0, at_, _, l => (some l, at_, 0)
  | f + 1, at_, tight, l =>
    if L.length ≤ at_ then (some l, at_, 0)
    else
      let ap := !tight || parts (L.getD at_ 0)
      match stepM (L.drop at_) with
      | .err i e => if ap = false ∧ 0 < i then (none, at_, 4) else (none, at_ + i, e)
      | .pass n => if ap = false then (none, at_, 4) else scanM L f (at_ + n) false l
      | .tok t n b => if ap = false then (none, at_, 4) else scanM L f (at_ + n) b (l ++ [(t, at_)])
end Go.Proofs.YtjpbbooeihdnfaaDoor
