/- Two values held against each other. -/
import Derived.Test.YtekmboolfjicbaaRSmall
import Derived.Laws.StructEq
set_option maxRecDepth 20000
set_option linter.unusedSimpArgs false
namespace Go.Proofs.Ytekmboolfjicbaa
open Go.RowKit

theorem decV_eq (p r : Int × Int) : decide (p = r) = (decide (p.1 = r.1) && decide (p.2 = r.2)) := by
  obtain ⟨a, b⟩ := p
  obtain ⟨c, d⟩ := r
  by_cases h1 : a = c <;> by_cases h2 : b = d <;> simp [h1, h2]
theorem guardV : Try.prog.eqGuardType Try.prog.depth 36 = false := by kernel_rfl
theorem neqV (p r : Int × Int) (w : World) : (binOp .neq 36 (.agg #[.int .i64 p.1, .int .i64 p.2]) (.agg #[.int .i64 r.1, .int .i64 r.2])).run Try.prog w = .ok (.bool (!decide (p = r))) w := by
  have u3 := Try.underlying3
  have u9 := Try.underlying34
  have a3 := Try.isAgg3
  have z3 := Try.sizeOf3
  have a9 := Try.isAgg34
  have z9 := Try.sizeOf34
  have hS : Try.prog.underlying 36 = some (.struct (Try.prog.fieldsOf 36)) := by kernel_rfl
  have hp : Try.prog.stoodInHeld 36 = false := by kernel_rfl
  rw [run_neq_struct, show (10000 : Nat) = 9999 + 1 from rfl, run_equalIn_agg w 9999 36 _ _ hS hp]
  simp only [Program.fieldsOf, Try.underlying36]
  go_simp
  rw [decV_eq p r]
  by_cases h1 : p.1 = r.1 <;> by_cases h2 : p.2 = r.2 <;> simp [h1, h2]
theorem eqlV (p r : Int × Int) (w : World) : (binOp .eql 36 (.agg #[.int .i64 p.1, .int .i64 p.2]) (.agg #[.int .i64 r.1, .int .i64 r.2])).run Try.prog w = .ok (.bool (decide (p = r))) w := by
  have u3 := Try.underlying3
  have u9 := Try.underlying34
  have a3 := Try.isAgg3
  have z3 := Try.sizeOf3
  have a9 := Try.isAgg34
  have z9 := Try.sizeOf34
  have hS : Try.prog.underlying 36 = some (.struct (Try.prog.fieldsOf 36)) := by kernel_rfl
  have hp : Try.prog.stoodInHeld 36 = false := by kernel_rfl
  rw [run_eql_struct, show (10000 : Nat) = 9999 + 1 from rfl, run_equalIn_agg w 9999 36 _ _ hS hp]
  simp only [Program.fieldsOf, Try.underlying36]
  go_simp
  rw [decV_eq p r]
  by_cases h1 : p.1 = r.1 <;> by_cases h2 : p.2 = r.2 <;> simp [h1, h2]
end Go.Proofs.Ytekmboolfjicbaa
