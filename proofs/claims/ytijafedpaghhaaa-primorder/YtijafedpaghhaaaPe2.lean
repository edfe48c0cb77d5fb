/-
  Simple values, compared.
-/
import Derived.Test.YtijafedpaghhaaaPd
import Derived.Laws.StructEq
namespace Go.Proofs.Ytijafedpaghhaaa
open Go.RowKit Go.Shelf Go.Maps
set_option linter.unusedVariables false

theorem stood : Try.prog.stoodInHeld 24 = false := by kernel_rfl
theorem guardP : Try.prog.eqGuardType Try.prog.depth 24 = false := by kernel_rfl
theorem fieldsP : Try.prog.underlying 24 = some (.struct (Try.prog.fieldsOf 24)) := by kernel_rfl
set_option maxRecDepth 100000 in
theorem eqPrim (k n k' n' : Int) (t t' : ByteArray) (W : World) : (binOp .eql 24 (.agg #[.int .i64 k, .int .i64 n, .string t]) (.agg #[.int .i64 k', .int .i64 n', .string t'])).run Try.prog W = .ok (.bool ((k == k') && ((n == n') && (t.toList == t'.toList)))) W := by
  rw [run_eql_struct, run_equalIn_struct W 9999 24 _ _ fieldsP stood]
  simp [Program.fieldsOf, Try.underlying24, Op.eqFields, go_sem]
  by_cases h1 : k = k' <;> by_cases h2 : n = n' <;> by_cases h3 : t.toList = t'.toList <;> simp [h1, h2, h3]
end Go.Proofs.Ytijafedpaghhaaa
