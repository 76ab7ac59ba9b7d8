/- The digits, sums and products of numbers, said with names for their signs, as the laws' walks meet them. -/
import Derived.Test.YtfjoahbboglgfaaDoorLaw
namespace Go.Proofs.YtfjoahbboglgfaaDoor
open Go.RowKit

theorem of_len {ds : List Nat} {n : Nat} (h : Canon ds) (hv : val ds = n) (hn : n ≤ 9223372036854775808) : ds.length ≤ 19 :=
  canon_len h 19 (by rw [hv]; have : (10 : Nat) ^ 19 = 10000000000000000000 := by decide
                     omega)
theorem sgn_of {a : Int} {x : Bool} (h : decide (a < 0) = x) : sgn x a.natAbs = a := by
  subst h
  by_cases ha : a < 0
  · rw [decide_eq_true ha, sgn_t]; omega
  · rw [decide_eq_false ha, sgn_f]; omega
theorem sgn_not (x : Bool) (n : Nat) : sgn (!x) n = -sgn x n := by cases x <;> simp [sgn]
theorem sgn_mul (x y : Bool) (m n : Nat) : sgn (!(x == y)) (m * n) = sgn x m * sgn y n := by
  cases x <;> cases y <;> simp [sgn, Int.mul_neg, Int.neg_mul]

theorem of_val (a : Int) (x : Bool) (w : World) (h1 : -9223372036854775808 ≤ a) (h2 : a ≤ 9223372036854775807) (hx : Hid (decide (a < 0) = x)) :
    Calls Tryd.prog 10 #[.int .i64 a] w fun e w' => (∃ C c ds, e = .returned (.agg #[.bool x, .slice C ds.length c]) ∧ Row w' C c ds ∧ Canon ds ∧ val ds = a.natAbs ∧ ds.length ≤ 19) ∧ Below w.heap.size w w' := by
  have h := of_any a w h1 h2
  rw [hx.out] at h
  refine h.mono ?_
  rintro e w' ⟨⟨C, c, ds, rfl, hr, hc, hv⟩, hb⟩
  exact ⟨⟨C, c, ds, rfl, hr, hc, hv, of_len hc hv (by omega)⟩, hb⟩

theorem prod_val (A B : Option Addr) (ca cb : Nat) (a b : List Nat) (x y z : Bool) (w : World) (ha : Row w A ca a) (hb : Row w B cb b) (hla : a.length ≤ 200) (hlb : b.length ≤ 200) (hda : Canon a) (hdb : Canon b) (hz : Hid ((!(x == y)) = z)) :
    Calls Tryd.prog 20 #[.agg #[.bool x, .slice A a.length ca], .agg #[.bool y, .slice B b.length cb]] w fun e w' =>
      (∃ C c ds, e = .returned (.agg #[.bool z, .slice C ds.length c]) ∧ Row w' C c ds ∧ Canon ds ∧ val ds = val a * val b ∧ ds.length ≤ 400) ∧ Below w.heap.size w w' := by
  have h := prod_any A B ca cb a b x y w ha hb hla hlb hda hdb
  rw [hz.out] at h
  refine h.mono ?_
  rintro e w' ⟨⟨C, c, ds, rfl, hr, hc, hv⟩, hbl⟩
  exact ⟨⟨C, c, ds, rfl, hr, hc, hv, prod_len hda.1 hdb.1 hla hlb hc (Nat.le_refl _) hv⟩, hbl⟩

end Go.Proofs.YtfjoahbboglgfaaDoor
