/- The place of a number in a list; rounds that are nil. -/
import Derived.Test.YtekmboolfjicbaaAllI
import Derived.Test.YtekmboolfjicbaaRnS
set_option maxRecDepth 20000
set_option linter.unusedSimpArgs false
set_option linter.unusedVariables false
namespace Go.Proofs.Ytekmboolfjicbaa
open Go.RowKit

/-- Numbers as they lie. -/
def Ints (w : World) (q : Option Addr) (n : Nat) (l : List Int) : Prop := l.length = n ∧ (0 < n → ∃ b o, q = some ⟨b, o, none⟩ ∧ ∀ i, i < n → w.cell? ⟨b, o + i, none⟩ = some (.int .i64 (l.getD i 0)))
theorem Ints.below {w w' : World} {q : Option Addr} {n : Nat} {l : List Int} (h : Ints w q n l) (hb : Below w.heap.size w w') : Ints w' q n l := ⟨h.1, fun hn => by
  obtain ⟨b, o, e, hc⟩ := h.2 hn
  exact ⟨b, o, e, fun i hi => (hb.cell (World.block_lt_of_cell? w _ (hc i hi))).trans (hc i hi)⟩⟩
def encI (T : List Int) : List Value := T.flatMap (fun x : Int => [Value.int .i64 x])
theorem encI_len (T : List Int) : (encI T).length = T.length := by
  unfold encI
  induction T with
  | nil => rfl
  | cons x T ih => simp only [List.flatMap_cons, List.length_append, ih, List.length_cons, List.length_nil]; omega
theorem Ints.own {w : World} {base n c : Nat} {q : Option Addr} {l : List Int} (h : w.ownsRow base 3 1 (.slice q n c) n (encI l)) : Ints w q n l := by
  have hl : l.length = n := by have := h.1; rw [encI_len] at this; omega
  refine ⟨hl, fun hn => ?_⟩
  obtain ⟨g, c', e⟩ := own_some h hn
  cases e
  refine ⟨g, 0, rfl, fun i hi => ?_⟩
  have hx := flat1_get (fun x : Int => Value.int .i64 x) l i (l.getD i 0) (by rw [List.getD_eq_getElem?_getD, List.getElem?_eq_getElem (by omega)]; rfl)
  have h2 := h.cells (g := g) rfl i _ hx
  have e : (⟨g, 0, none⟩ : Addr).add i = ⟨g, 0 + i, none⟩ := by unfold Addr.add; split <;> simp_all
  rw [← e]
  exact h2
/-- The place of a number; -1: it isn't there. -/
def idxI (T : List Int) (x : Int) : Int := if x ∈ T then (T.idxOf x : Int) else -1
theorem idxI_lt (T : List Int) (x : Int) : decide (idxI T x < 0) = !hasK T x := by
  unfold idxI
  by_cases h : x ∈ T
  · rw [hasK_yes h, if_pos h]; simp
  · rw [hasK_no h, if_neg h]; rfl
theorem idx_at {T : List Int} {x : Int} {i : Nat} (hi : i < T.length) (hx : T.getD i 0 = x) (hno : ∀ j, j < i → T.getD j 0 ≠ x) : idxI T x = (i : Int) := by
  have hget : T[i] = x := by rw [List.getD_eq_getElem?_getD, List.getElem?_eq_getElem hi] at hx; exact hx
  have hm : x ∈ T := by rw [← hget]; exact List.getElem_mem _
  unfold idxI
  rw [if_pos hm]
  congr 1
  have hlt : T.idxOf x < T.length := List.idxOf_lt_length_of_mem hm
  have h1 : T[T.idxOf x] = x := List.getElem_idxOf hlt
  rcases Nat.lt_trichotomy (T.idxOf x) i with h | h | h
  · exact absurd (by rw [List.getD_eq_getElem?_getD, List.getElem?_eq_getElem hlt]; exact h1) (hno _ h)
  · exact h
  · have : ¬ T[i] = x := fun e => by
      have := List.not_of_lt_findIdx (p := (· == x)) (xs := T) (i := i) (by simpa [List.idxOf] using h)
      simp [e] at this
    exact absurd hget this
theorem idx_no {T : List Int} {x : Int} (hno : ∀ j, j < T.length → T.getD j 0 ≠ x) : idxI T x = -1 := by
  unfold idxI
  rw [if_neg]
  intro hm
  obtain ⟨j, hj, e⟩ := List.getElem_of_mem hm
  exact hno j hj (by rw [List.getD_eq_getElem?_getD, List.getElem?_eq_getElem hj]; exact e)
set_option maxHeartbeats 1600000 in
theorem index_any (q : Option Addr) (n c : Nat) (l : List Int) (w : World) (hl : Ints w q n l) (hn : n ≤ 1000000) (x : Int) :
    Calls Try.prog 10 #[.slice q n c, .int .i64 x] w fun e w' => e = .returned (.int .i64 (idxI l x)) ∧ w' = w := by
  have HL := Lib.hid hl
  clear hl
  go_enter Try.func10, Try.ntmps10
  go_wp2_with fail
  go_loopw [5] (fun iv wr => ∃ i : Nat, i ≤ n ∧ iv = .int .i64 (i : Int) ∧ Hid (∀ j, j < i → l.getD j 0 ≠ x) ∧ wr = w) (fun iv _ => n - (intOf iv).toNat)
  case atStart => exact ⟨0, by omega, by go_num, Lib.hid fun j hj => absurd hj (Nat.not_lt_zero j), rfl⟩
  case round =>
    obtain ⟨i, hi, rfl, HNO, rfl⟩ := hrel
    by_cases hlt : i < n
    · obtain ⟨B, o, rfl, hat⟩ := HL.out.2 (by omega)
      have z := hat i hlt
      have hin : (i : Int) < (n : Int) := by omega
      have hi6 : (i : Int) ≤ 1000000 := by omega
      have HLT : Hid (i + 1 ≤ n) := Lib.hid hlt
      obtain ⟨v, HV⟩ : ∃ v, Hid (l.getD i 0 = v) := ⟨_, Lib.hid rfl⟩
      rw [HV.out] at z
      by_cases he : v = x
      · have HF : Hid (idxI l x = (i : Int)) := Lib.hid (idx_at (by have := HL.out.1; omega) (by rw [HV.out]; exact he) HNO.out)
        subst he
        clear hat HNO HLT HV
        go_wp2_with fail
        go_ret
        exact ⟨by rw [HF.out]; rfl, rfl⟩
      · have hd : decide (v = x) = false := decide_eq_false he
        have HNX : Hid (∀ j, j < i + 1 → l.getD j 0 ≠ x) := Lib.hid fun j hj => (Nat.lt_succ_iff_lt_or_eq.1 hj).elim (HNO.out j) fun e => by rw [e, HV.out]; exact he
        clear hat HNO HV
        go_wp2_with fail
        go_roundw
        case rel => exact ⟨i + 1, HLT.out, by go_num, HNX, trivial⟩
        case measure => simp [intOf]; omega
    · obtain rfl : i = n := by omega
      have HF : Hid (idxI l x = -1) := Lib.hid (idx_no fun j hj => HNO.out j (by have := HL.out.1; omega))
      go_wp2_with fail
      go_ret
      exact ⟨by rw [HF.out]; rfl, rfl⟩
theorem nilI_see (x : Int) (w : World) : Calls Try.prog 11 #[.pointer none, .int .i64 x] w fun e w' => e = .returned (.bool false) ∧ w' = w := by
  go_enter Try.func11, Try.ntmps11
  go_wp2_with fail
  go_ret
  exact ⟨rfl, rfl⟩
theorem nilI_place (x : Int) (w : World) : Calls Try.prog 13 #[.pointer none, .int .i64 x] w fun e w' => e = .returned (.tuple #[.int .i64 0, .bool false]) ∧ w' = w := by
  go_enter Try.func13, Try.ntmps13
  go_wp2_with fail
  go_ret2
  exact ⟨rfl, rfl⟩
theorem nilI_len (w : World) : Calls Try.prog 16 #[.pointer none] w fun e w' => e = .returned (.int .i64 0) ∧ w' = w := by
  go_enter Try.func16, Try.ntmps16
  go_wp2_with fail
  go_ret
  exact ⟨rfl, rfl⟩
end Go.Proofs.Ytekmboolfjicbaa
