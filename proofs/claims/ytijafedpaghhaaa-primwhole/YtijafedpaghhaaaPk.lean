/-
  The law PrimWhole, of any two numbers.
-/
import Derived.Test.YtijafedpaghhaaaPj
namespace Go.Proofs.Ytijafedpaghhaaa
open Go.RowKit Go.Shelf Go.Maps
set_option linter.unusedVariables false

theorem lawWhole_c (a b : Int) (wa : Lit.wf (.int .i64 a) = true) (wb : Lit.wf (.int .i64 b) = true) (w : World) : Calls Try.prog 3 #[.int .i64 a, .int .i64 b] w fun e w' => e = .returned (.bool true) ∧ Below w.heap.size w w' := by
  by_cases hb0 : b = 0
  · subst hb0; exact lawWhole_zero a wa w
  · have ha := wf64 wa
    have hb := wf64 wb
    have hE := whole_eq a b ha
    have hsm := tmod_small a b hb0
    have hsg : a.tmod b = 0 ∨ (a.tmod b < 0 ∧ a < 0) ∨ (0 < a.tmod b ∧ 0 ≤ a) := by
      have h1 := tmod_pos a b
      have h2 := tmod_neg a b
      omega
    have Hq : Hid (∀ W : World, Calls Try.prog 6 #[.string ⟨#[113, 117, 111, 116]⟩, .int .i64 a, .int .i64 b] W fun e w' => e = .returned (.tuple #[.agg #[.int .i64 1, .int .i64 (wrap64 (a.tdiv b)), .string noText], .bool true]) ∧ Below W.heap.size W w') := fun W => two_c nm_quot (by decide) quotM op_quot ar_quot a b wa wb 1 (wrap64 (a.tdiv b)) noText (by unfold quotM; rw [if_neg hb0]) W
    have Hr : Hid (∀ W : World, Calls Try.prog 6 #[.string ⟨#[114, 101, 109]⟩, .int .i64 a, .int .i64 b] W fun e w' => e = .returned (.tuple #[.agg #[.int .i64 1, .int .i64 (a.tmod b), .string noText], .bool true]) ∧ Below W.heap.size W w') := fun W => two_c nm_rem (by decide) remM op_rem ar_rem a b wa wb 1 (a.tmod b) noText (by unfold remM; rw [if_neg hb0]) W
    by_cases hm : b = -9223372036854775808
    · exact lawWhole_m a b _ _ hb0 hsg (by simp [hm]) hE Hq Hr w
    · have hA : absM b = (b.natAbs : Int) := by unfold absM; split <;> omega
      refine lawWhole_t a b _ _ hb0 hsg (absM b) (fun W => abs_c b (by omega) W) (by simpa using hm) ?_ ?_ ?_ ?_ hE Hq Hr w
      all_goals (rw [hA]; omega)
end Go.Proofs.Ytijafedpaghhaaa
