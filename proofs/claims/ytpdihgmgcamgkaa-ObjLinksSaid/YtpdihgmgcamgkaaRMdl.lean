/- Records, without memory: which may be, their bytes, what a kind asks for. -/
import Derived.Test.YtpdihgmgcamgkaaStr
set_option linter.unusedSimpArgs false
namespace Go.Proofs.Ytpdihgmgcamgkaa
open Go.RowKit

/-- A part of a record. -/
structure Pt where
  k : Int
  n : Int
  s : ByteArray
instance : Inhabited Pt := ⟨⟨0, 0, ⟨#[]⟩⟩⟩
/-- A record. -/
structure Rc where
  kind : Int
  parts : List Pt
  bytes : ByteArray
def I64 (x : Int) : Prop := -9223372036854775808 ≤ x ∧ x ≤ 9223372036854775807
structure PtB (p : Pt) : Prop where
  k : I64 p.k
  n : I64 p.n
  s : p.s.size ≤ 9223372036854775807
def Pt.cells (p : Pt) : List Value := [.int .i64 p.k, .int .i64 p.n, .string p.s]
def Pt.val (p : Pt) : Value := .agg #[.int .i64 p.k, .int .i64 p.n, .string p.s]
def pflat (l : List Pt) : List Value := l.flatMap Pt.cells
theorem pflat_nil : pflat [] = [] := rfl
theorem pflat_append (a b : List Pt) : pflat (a ++ b) = pflat a ++ pflat b := by unfold pflat; rw [List.flatMap_append]
theorem pflat_one (p : Pt) : pflat [p] = [.int .i64 p.k, .int .i64 p.n, .string p.s] := by simp [pflat, Pt.cells]
theorem pflat_cons (p : Pt) (l : List Pt) : pflat (p :: l) = [.int .i64 p.k, .int .i64 p.n, .string p.s] ++ pflat l := rfl
theorem pflat_len (l : List Pt) : (pflat l).length = l.length * 3 := by
  induction l with
  | nil => rfl
  | cons p l ih => rw [pflat_cons, List.length_append, ih]; simp; omega
theorem pflat_get (l : List Pt) (i : Nat) (h : i < l.length) : (pflat l)[i * 3]? = some (.int .i64 (l.getD i default).k) ∧ (pflat l)[i * 3 + 1]? = some (.int .i64 (l.getD i default).n) ∧ (pflat l)[i * 3 + 2]? = some (.string (l.getD i default).s) := by
  induction l generalizing i with
  | nil => simp at h
  | cons p l ih =>
    rw [pflat_cons]
    cases i with
    | zero => exact ⟨rfl, rfl, rfl⟩
    | succ i =>
      have h2 := ih i (by simpa using h)
      rw [show (i + 1) * 3 = [Value.int .i64 p.k, .int .i64 p.n, .string p.s].length + i * 3 by simp; omega]
      refine ⟨?_, ?_, ?_⟩
      · rw [List.getElem?_append_right (by omega), Nat.add_sub_cancel_left]; exact h2.1
      · rw [List.getElem?_append_right (by omega), Nat.add_assoc, Nat.add_sub_cancel_left]; exact h2.2.1
      · rw [List.getElem?_append_right (by omega), Nat.add_assoc, Nat.add_sub_cancel_left]; exact h2.2.2
theorem pflat_one_cell (l : List Pt) : ∀ u ∈ pflat l, u.oneCell' = true := by
  intro u hu
  unfold pflat at hu
  obtain ⟨p, _, h⟩ := List.mem_flatMap.1 hu
  simp [Pt.cells] at h
  rcases h with rfl | rfl | rfl <;> rfl
theorem pflat_set_n (l : List Pt) (i : Nat) (x : Int) (h : i < l.length) : (pflat l).set (i * 3 + 1) (.int .i64 x) = pflat (l.set i { l.getD i default with n := x }) := by
  induction l generalizing i with
  | nil => simp at h
  | cons p l ih =>
    cases i with
    | zero => rfl
    | succ i =>
      have h2 := ih i (by simpa using h)
      rw [pflat_cons, List.set_cons_succ, pflat_cons, List.set_append_right _ _ (by simp; omega)]
      rw [show (i + 1) * 3 + 1 - [Value.int .i64 p.k, .int .i64 p.n, .string p.s].length = i * 3 + 1 by simp; omega, h2]
      rfl

/-- What numbers a part of a kind may have, and whether there may be such a part. -/
structure Sp where
  lo : Int
  hi : Int
  ok : Bool
def numM (k : Int) : Sp :=
  if k = 0 ∨ k = 6 ∨ k = 7 ∨ k = 4 then ⟨0, 0, true⟩ else if k = 1 then ⟨0, 1, true⟩ else if k = 3 then ⟨0, 127, true⟩ else if k = 5 then ⟨0, 255, true⟩ else
  if k = 2 then ⟨-9223372036854775808, 9223372036854775807, true⟩ else if k = 8 then ⟨1, 16384, true⟩ else ⟨0, 0, false⟩
inductive Rl where
  | any | ref | refNil | tag
instance : Inhabited Rl := ⟨.any⟩
def Rl.ap : Rl → Int → Sp
  | .any, k => numM k
  | .ref, k => ⟨(numM k).lo, (numM k).hi, (numM k).ok && decide (k = 8)⟩
  | .refNil, k => ⟨(numM k).lo, (numM k).hi, (numM k).ok && (decide (k = 8) || decide (k = 0))⟩
  | .tag, k => ⟨0, 63, decide (k = 2)⟩
structure Nd where
  least : Int
  most : Int
  first : List Rl
  bytes : Int
  high : Nat
  kept : Bool
def needM (k : Int) : Nd :=
  if k = 6 then ⟨1, 256, [.refNil], 0, 255, true⟩ else if k = 7 then ⟨1, 256, [.tag], 0, 255, true⟩ else if k = 1 then ⟨0, 256, [], 0, 255, true⟩ else if k = 9 then ⟨0, 256, [], 0, 255, true⟩ else
  if k = 4 then ⟨1, 1, [], 0, 255, true⟩ else if k = 0 then ⟨2, 2, [], 0, 255, true⟩ else if k = 5 then ⟨2, 2, [.ref, .refNil], 0, 255, true⟩ else if k = 8 then ⟨2, 2, [], 0, 255, true⟩ else
  if k = 2 then ⟨0, 0, [], 4096, 127, true⟩ else if k = 3 then ⟨0, 0, [], 4096, 255, true⟩ else ⟨0, 0, [], 0, 0, false⟩
/-- May a part be whose number is one of these? -/
def mayBeM (p : Pt) (lo hi : Int) : Bool := (if p.k = 4 then okB p.s else decide (p.s.size = 0)) && (decide (lo ≤ p.n) && decide (p.n ≤ hi))
def Nd.at (n : Nd) (i : Nat) : Rl := n.first.getD i .any
def partOk (n : Nd) (i : Nat) (p : Pt) : Bool := ((n.at i).ap p.k).ok && mayBeM p ((n.at i).ap p.k).lo ((n.at i).ap p.k).hi
/-- Whether all parts from a place on may be. -/
def partsM (n : Nd) : Nat → List Pt → Bool
  | _, [] => true
  | i, p :: l => partOk n i p && partsM n (i + 1) l
def bytesM (n : Nd) (S : ByteArray) : Bool := decide ((S.size : Int) ≤ n.bytes) && (nums S).all (fun x => decide (x ≤ n.high))
def mayM (r : Rc) : Bool := (needM r.kind).kept && (decide ((needM r.kind).least ≤ (r.parts.length : Int)) && decide ((r.parts.length : Int) ≤ (needM r.kind).most) && (partsM (needM r.kind) 0 r.parts && bytesM (needM r.kind) r.bytes))
/-- The bytes of a part. -/
def ptB (p : Pt) : List Nat :=
  [(p.k % 256).toNat] ++ (if p.k = 1 ∨ p.k = 3 ∨ p.k = 5 ∨ p.k = 8 then numB p.n.toNat else if p.k = 2 then numB (zig p.n) else if p.k = 4 then numB p.s.size ++ nums p.s else [])
def ptsB : List Pt → List Nat
  | [] => []
  | p :: l => ptB p ++ ptsB l
theorem ptsB_append (a b : List Pt) : ptsB (a ++ b) = ptsB a ++ ptsB b := by
  induction a with
  | nil => rfl
  | cons p a ih => rw [List.cons_append, ptsB, ptsB, ih, List.append_assoc]
/-- The bytes of a record. -/
def rcB (r : Rc) : List Nat := [(r.kind % 256).toNat] ++ numB r.parts.length ++ ptsB r.parts ++ (numB r.bytes.size ++ nums r.bytes)
theorem ptB_dig (p : Pt) : ∀ x ∈ ptB p, x < 256 := by
  unfold ptB
  refine dig_append (by intro x hx; simp at hx; omega) ?_
  split
  · exact numB_dig _
  · split
    · exact numB_dig _
    · split
      · exact dig_append (numB_dig _) (nums_dig _)
      · simp
theorem ptsB_dig (l : List Pt) : ∀ x ∈ ptsB l, x < 256 := by
  induction l with
  | nil => simp [ptsB]
  | cons p l ih => exact dig_append (ptB_dig p) ih
theorem rcB_dig (r : Rc) : ∀ x ∈ rcB r, x < 256 := by
  unfold rcB
  exact dig_append (dig_append (dig_append (by intro x hx; simp at hx; omega) (numB_dig _)) (ptsB_dig _)) (dig_append (numB_dig _) (nums_dig _))
end Go.Proofs.Ytpdihgmgcamgkaa
