/- Which records may be, as the document counts it. -/
import Derived.Test.YtpdihgmgcamgkaaRPart
import Derived.Test.YtpdihgmgcamgkaaEncode
set_option linter.unusedSimpArgs false
set_option maxRecDepth 20000
namespace Go.Proofs.Ytpdihgmgcamgkaa
open Go.RowKit

/-- What a rule asks besides. -/
def ex (r : Rl) (p : Pt) : Bool := match r with
  | .any => true
  | .ref => decide (p.k = 8)
  | .refNil => decide (p.k = 8) || decide (p.k = 0)
  | .tag => decide (p.k = 2) && (decide (0 ≤ p.n) && decide (p.n < 64))
theorem ap_ex (r : Rl) (p : Pt) : ((r.ap p.k).ok && mayBeM p (r.ap p.k).lo (r.ap p.k).hi) = (pm p && ex r p) := by
  unfold pm
  cases r with
  | any => simp [Rl.ap, ex]
  | ref =>
    simp only [Rl.ap, ex]
    cases (numM p.k).ok <;> cases decide (p.k = 8) <;> simp
  | refNil =>
    simp only [Rl.ap, ex]
    cases (numM p.k).ok <;> cases decide (p.k = 8) <;> cases decide (p.k = 0) <;> simp
  | tag =>
    simp only [Rl.ap, ex]
    by_cases h : p.k = 2
    · rw [h]
      unfold mayBeM
      simp only [h]
      rw [show (numM 2) = ⟨-9223372036854775808, 9223372036854775807, true⟩ from rfl]
      rw [Bool.eq_iff_iff]
      by_cases hs : p.s.size = 0
      · simp [hs]
        omega
      · simp [hs]
    · simp [h]
def exs (N : Nd) : Nat → List Pt → Bool
  | _, [] => true
  | j, p :: l => ex (N.at j) p && exs N (j + 1) l
theorem partsM_eq (N : Nd) : ∀ (l : List Pt) (j : Nat), partsM N j l = (l.all pm && exs N j l) := by
  intro l
  induction l with
  | nil => intro j; rfl
  | cons p l ih =>
    intro j
    rw [partsM, ih, List.all_cons, exs]
    unfold partOk
    rw [ap_ex]
    cases pm p <;> cases ex (N.at j) p <;> cases l.all pm <;> simp
theorem exs_any (N : Nd) : ∀ (l : List Pt) (j : Nat), N.first.length ≤ j → exs N j l = true := by
  intro l
  induction l with
  | nil => intro j _; rfl
  | cons p l ih =>
    intro j h
    rw [exs, ih (j + 1) (by omega)]
    have : N.at j = .any := by unfold Nd.at; rw [List.getD_eq_getElem?_getD, List.getElem?_eq_none h]; rfl
    rw [this]; rfl
theorem mayM_eq (r : Rc) : mayM r = ((needM r.kind).kept && (decide ((needM r.kind).least ≤ (r.parts.length : Int)) && decide ((r.parts.length : Int) ≤ (needM r.kind).most) && (r.parts.all pm && exs (needM r.kind) 0 r.parts && bytesM (needM r.kind) r.bytes))) := by
  unfold mayM
  rw [partsM_eq]
theorem need_kept (k : Int) : (needM k).kept = (decide (0 ≤ k) && decide (k ≤ 9)) := by
  unfold needM
  rw [Bool.eq_iff_iff]
  repeat' split
  all_goals simp
  all_goals omega
theorem need_out {k : Int} (h : k < 0 ∨ 9 < k) : (needM k).kept = false := by
  rw [need_kept]
  rcases h with h | h
  · rw [decide_eq_false (by omega)]; rfl
  · rw [decide_eq_false (show ¬ k ≤ 9 by omega), Bool.and_false]
theorem need_bytes {k : Int} (h2 : k ≠ 2) (h3 : k ≠ 3) : (needM k).bytes = 0 := by
  unfold needM
  repeat' split
  all_goals first | rfl | (exfalso; omega)
theorem may_out {r : Rc} (h : r.kind < 0 ∨ 9 < r.kind) : mayM r = false := by rw [mayM_eq, need_out h]; rfl
theorem may_long {r : Rc} (h : 256 < r.parts.length) : mayM r = false := by
  rw [mayM_eq]
  have := (needM_b r.kind).1
  rw [show decide ((r.parts.length : Int) ≤ (needM r.kind).most) = false from decide_eq_false (by omega)]
  simp
theorem may_fat {r : Rc} (h : 4096 < r.bytes.size) : mayM r = false := by
  rw [mayM_eq]
  have := (needM_b r.kind).2.1
  unfold bytesM
  rw [show decide ((r.bytes.size : Int) ≤ (needM r.kind).bytes) = false from decide_eq_false (by omega)]
  simp
theorem may_nobytes {r : Rc} (h : r.bytes.size ≠ 0) (h2 : r.kind ≠ 2) (h3 : r.kind ≠ 3) : mayM r = false := by
  rw [mayM_eq]
  unfold bytesM
  rw [need_bytes h2 h3, show decide ((r.bytes.size : Int) ≤ 0) = false from decide_eq_false (by omega)]
  simp
theorem may_part {r : Rc} {i : Nat} (hi : i < r.parts.length) (h : pm (r.parts.getD i default) = false) : mayM r = false := by
  rw [mayM_eq]
  have : r.parts.all pm = false := by
    rw [List.all_eq_false]
    refine ⟨_, List.getElem_mem hi, ?_⟩
    rw [List.getD_eq_getElem?_getD, List.getElem?_eq_getElem hi] at h
    simp only [Option.getD_some] at h
    rw [h]; simp
  rw [this]
  simp
theorem may_ascii {r : Rc} {i : Nat} (h2 : r.kind = 2) (hi : i < r.bytes.size) (h : 127 < byteAt r.bytes i) : mayM r = false := by
  rw [mayM_eq, bytesM_no (N := needM r.kind) hi (by rw [h2]; exact h)]
  simp
theorem may_few {r : Rc} (h : (r.parts.length : Int) < (needM r.kind).least) : mayM r = false := by
  rw [mayM_eq, show decide ((needM r.kind).least ≤ (r.parts.length : Int)) = false from decide_eq_false (by omega)]
  simp
theorem may_many {r : Rc} (h : (needM r.kind).most < (r.parts.length : Int)) : mayM r = false := by
  rw [mayM_eq, show decide ((r.parts.length : Int) ≤ (needM r.kind).most) = false from decide_eq_false (by omega)]
  simp
theorem may_last {r : Rc} (h0 : 0 ≤ r.kind) (h9 : r.kind ≤ 9) (hp : ∀ i, i < r.parts.length → pm (r.parts.getD i default) = true) (hb : r.bytes.size = 0 ∨ r.kind = 2 ∨ r.kind = 3) (hz : r.bytes.size ≤ 4096)
    (ha : r.kind = 2 → ∀ i, i < r.bytes.size → byteAt r.bytes i ≤ 127) (h1 : (needM r.kind).least ≤ (r.parts.length : Int)) (h2 : (r.parts.length : Int) ≤ (needM r.kind).most) : mayM r = exs (needM r.kind) 0 r.parts := by
  have e1 : r.parts.all pm = true := by
    rw [List.all_eq_true]
    intro x hx
    obtain ⟨i, hi, rfl⟩ := List.getElem_of_mem hx
    have := hp i hi
    rw [List.getD_eq_getElem?_getD, List.getElem?_eq_getElem hi] at this
    exact this
  have e2 : bytesM (needM r.kind) r.bytes = true := by
    apply bytesM_yes
    · rcases hb with h | h | h
      · rw [h]; have := (needM_b r.kind).2.2.1; simpa using this
      · rw [h]; show (r.bytes.size : Int) ≤ 4096; omega
      · rw [h]; show (r.bytes.size : Int) ≤ 4096; omega
    · intro i hi
      rcases hb with h | h | h
      · omega
      · rw [h]; exact ha h i hi
      · rw [h]
        show byteAt r.bytes i ≤ 255
        have := byteAt_lt r.bytes i
        omega
  rw [mayM_eq, need_kept, decide_eq_true h0, decide_eq_true h9, decide_eq_true h1, decide_eq_true h2, e1, e2]
  simp
end Go.Proofs.Ytpdihgmgcamgkaa
