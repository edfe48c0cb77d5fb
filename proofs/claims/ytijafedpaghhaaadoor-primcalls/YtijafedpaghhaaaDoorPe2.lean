/-
  Simple values, compared.
-/
import Derived.Test.YtijafedpaghhaaaDoorPd
import Derived.Laws.StructEq
namespace Go.Proofs.YtijafedpaghhaaaDoor
open Go.RowKit Go.Shelf Go.Maps
set_option linter.unusedVariables false

theorem stood : Tryd.prog.stoodInHeld 26 = false := by kernel_rfl
theorem guardP : Tryd.prog.eqGuardType Tryd.prog.depth 26 = false := by kernel_rfl
theorem fieldsP : Tryd.prog.underlying 26 = some (.struct (Tryd.prog.fieldsOf 26)) := by kernel_rfl
set_option maxRecDepth 100000 in
theorem eqPrim (k n k' n' : Int) (t t' : ByteArray) (W : World) : (binOp .eql 26 (.agg #[.int .i64 k, .int .i64 n, .string t]) (.agg #[.int .i64 k', .int .i64 n', .string t'])).run Tryd.prog W = .ok (.bool ((k == k') && ((n == n') && (t.toList == t'.toList)))) W := by
  rw [run_eql_struct, run_equalIn_struct W 9999 26 _ _ fieldsP stood]
  simp [Program.fieldsOf, Tryd.underlying26, Op.eqFields, go_sem]
  by_cases h1 : k = k' <;> by_cases h2 : n = n' <;> by_cases h3 : t.toList = t'.toList <;> simp [h1, h2, h3]
end Go.Proofs.YtijafedpaghhaaaDoor
