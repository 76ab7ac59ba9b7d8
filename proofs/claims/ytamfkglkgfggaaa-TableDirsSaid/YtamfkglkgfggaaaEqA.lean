/- Rows of numbers held against each other as wholes. -/
import Derived.Test.YtamfkglkgfggaaaLay
set_option linter.unusedSimpArgs false
namespace Go.Proofs.Ytamfkglkgfggaaa
open Go.RowKit

theorem run_part3 (xs : Array Value) (i : Nat) (v : Value) (w : World) (h : xs[i]? = some v) : (part 3 xs (i * 1)).run Try.prog w = .ok v w := by
  have hu := Try.underlying3
  unfold part
  simp [isAgg, Sem.run_bind, run_underlying hu w, h]
theorem run_int3 (d : Nat) (x y : Int) (w : World) : (Op.equalIn (d + 1) 3 (.int .i64 x) (.int .i64 y)).run Try.prog w = .ok (x == y) w := by
  have hu := Try.underlying3
  unfold Op.equalIn
  simp [Sem.run_bind, run_underlying hu w]
theorem run_items (d : Nat) (xs ys : Array Value) (f g : Nat → Nat) (n : Nat) (hx : ∀ i, i < n → xs[i]? = some (.int .i64 ((f i : Nat) : Int))) (hy : ∀ i, i < n → ys[i]? = some (.int .i64 ((g i : Nat) : Int))) (w : World) :
    ∀ (is : List Nat), (∀ i ∈ is, i < n) → (Op.eqItems (d + 1) 3 1 xs ys is).run Try.prog w = .ok (is.all fun i => f i == g i) w
  | [], _ => by simp [Op.eqItems]
  | i :: is, h => by
    have hi := h i (List.mem_cons_self ..)
    simp only [Op.eqItems, Sem.run_bind, run_part3 xs i _ w (hx i hi), run_part3 ys i _ w (hy i hi), Result.andThen_ok, run_int3]
    have e : (((f i : Nat) : Int) == ((g i : Nat) : Int)) = (f i == g i) := by rw [Bool.eq_iff_iff]; simp only [beq_iff_eq]; omega
    rw [e, List.all_cons]
    cases hfg : f i == g i with
    | true =>
      have ih := run_items d xs ys f g n hx hy w is (fun j hj => h j (List.mem_cons_of_mem _ hj))
      simp [ih]
    | false => simp
theorem all_iff (f g : Nat → Nat) (n : Nat) : ((List.range n).all fun i => f i == g i) = decide (∀ i, i < n → f i = g i) := by
  rw [Bool.eq_iff_iff]; simp
/-- Are so many numbers the same, from two places on? -/
def sameN (f g : Nat → Nat) (n : Nat) : Bool := decide (∀ i, i < n → f i = g i)
theorem cellsOf3 : Try.prog.cellsOf 3 = 1 := by kernel_rfl
theorem eq_row (t n : Nat) (hu : Try.prog.underlying t = some (.array n 3)) (f g : Nat → Nat) (a b : Nat) (w : World) :
    (binOp .eql t (.agg (ints f a n).toArray) (.agg (ints g b n).toArray)).run Try.prog w = .ok (.bool (sameN (fun i => f (a + i)) (fun i => g (b + i)) n)) w := by
  obtain ⟨i0, hi, -⟩ := info_parts (show (Try.prog.info? 3).map (fun i => (i.zero, i.size, i.bytes)) = some (some (.int .i64 0), 1, 8) by kernel_rfl)
  rw [run_eql_struct, show (10000 : Nat) = 9998 + 1 + 1 from rfl, run_equalIn_array w (9998 + 1) _ _ hu hi, cellsOf3,
    run_items 9998 _ _ (fun i => f (a + i)) (fun i => g (b + i)) n (fun i hi => by simpa using ints_get f a n i hi) (fun i hi => by simpa using ints_get g b n i hi) w _ (fun i hi => List.mem_range.1 hi), all_iff]
  rfl
theorem ne_row (t n : Nat) (hu : Try.prog.underlying t = some (.array n 3)) (f g : Nat → Nat) (a b : Nat) (w : World) :
    (binOp .neq t (.agg (ints f a n).toArray) (.agg (ints g b n).toArray)).run Try.prog w = .ok (.bool (!sameN (fun i => f (a + i)) (fun i => g (b + i)) n)) w := by
  obtain ⟨i0, hi, -⟩ := info_parts (show (Try.prog.info? 3).map (fun i => (i.zero, i.size, i.bytes)) = some (some (.int .i64 0), 1, 8) by kernel_rfl)
  rw [run_neq_struct, show (10000 : Nat) = 9998 + 1 + 1 from rfl, run_equalIn_array w (9998 + 1) _ _ hu hi, cellsOf3,
    run_items 9998 _ _ (fun i => f (a + i)) (fun i => g (b + i)) n (fun i hi => by simpa using ints_get f a n i hi) (fun i hi => by simpa using ints_get g b n i hi) w _ (fun i hi => List.mem_range.1 hi), all_iff]
  rfl
theorem guard81 : Try.prog.eqGuardType Try.prog.depth 81 = false := by kernel_rfl
theorem guard48 : Try.prog.eqGuardType Try.prog.depth 48 = false := by kernel_rfl
end Go.Proofs.Ytamfkglkgfggaaa
