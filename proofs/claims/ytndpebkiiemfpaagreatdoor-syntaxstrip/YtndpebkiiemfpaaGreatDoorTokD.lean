/-
  A token from its lexeme, by a contract.
-/
import Derived.Test.YtndpebkiiemfpaaGreatDoorBlk
namespace Go.Proofs.YtndpebkiiemfpaaGreatDoor
open Go.RowKit Go.Shelf Go.Maps
set_option linter.unusedVariables false

set_option maxHeartbeats 4000000 in
set_option maxRecDepth 100000 in
theorem token_d (k : Nat) (h5 : ¬ k = 5) (h6 : ¬ k = 6) (h7 : ¬ k = 7) (s : ByteArray) (hs : s.size ≤ 70000) (h1 : 1 ≤ s.size) (w : World) (hG' : GOK w) :
    Calls Tryz.prog 34 #[.int .i64 (k : Int), .string s] w fun e W' => e = .returned (tokV (M.mkTok k s.data.toList).kind (bs (M.mkTok k s.data.toList).text) (M.mkTok k s.data.toList).num 0 0 0 false) ∧ Below w.heap.size w W' := by
  have hG : Hid (GOK w) := hG'
  clear hG'
  have h1i : (1 : Int) ≤ s.size := by omega
  have hX : ∀ v1 v2 : Array Value, Below w.heap.size w ((w.alloc (.cells v1 39)).alloc (.cells v2 39)) := fun v1 v2 => ((Below.refl _ w).alloc (Nat.le_refl _) _).alloc (by simp) _
  have hT : Hid (M.mkTok k s.data.toList = ⟨k, s.data.toList, 0⟩) := by
    show _ = _
    unfold M.mkTok; rw [if_neg h5, if_neg h6, if_neg h7]
  have q5 : ((k : Int) == 5) = false := beq_eq_false_iff_ne.2 (by omega)
  have q6 : ((k : Int) == 6) = false := beq_eq_false_iff_ne.2 (by omega)
  have q7 : ((k : Int) == 7) = false := beq_eq_false_iff_ne.2 (by omega)
  have HX : Hid _ := hX
  clear hX
  go_enter Tryz.func34, Tryz.ntmps34
  go_wp2
  exact bodyPost_ret (v := tokV k s 0 0 0 0 false) (by simp [results, Tryz.results34, go_sem, tokV]) rfl ⟨by rw [hT.out, bs_back], HX.out _ _⟩



end Go.Proofs.YtndpebkiiemfpaaGreatDoor
