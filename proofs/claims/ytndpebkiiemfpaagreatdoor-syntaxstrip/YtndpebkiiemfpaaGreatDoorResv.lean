/-
  A token from its lexeme, by a contract.
-/
import Derived.Test.YtndpebkiiemfpaaGreatDoorBlk
namespace Go.Proofs.YtndpebkiiemfpaaGreatDoor
open Go.RowKit Go.Shelf Go.Maps
set_option linter.unusedVariables false

def resK (k : Nat) (l : List UInt8) : Nat := if k = 1 ∧ M.wordL.contains l then 9 else if k = 3 ∧ M.signL.contains l then 10 else k

set_option maxHeartbeats 4000000 in
set_option maxRecDepth 100000 in
theorem reserved_c (k : Nat) (tx : ByteArray) (num : Nat) (htx : tx.size ≤ 70000) (bw bg : Nat) (w : World) (hw' : SetAt w bw M.wordL) (hg' : SetAt w bg M.signL) :
    Calls Tryz.prog 35 #[tokV k tx num 0 0 0 false, .map (some bw), .map (some bg)] w fun e W' => e = .returned (.int .i64 (resK k tx.data.toList : Int)) ∧ Below w.heap.size w W' := by
  obtain ⟨nw, hnw, hw⟩ := hw'
  obtain ⟨ng, hng, hg⟩ := hg'
  have hlw := hw.lt
  have hlg := hg.lt
  have hkey := key_str tx (by unfold maxLen; omega)
  have hW := has_Dof M.wordL tx.data.toList
  have hS := has_Dof M.signL tx.data.toList
  have hB : Hid (∀ o1 o2 : Obj, Below w.heap.size w ((w.alloc o1).alloc o2)) := fun o1 o2 => ((Below.refl _ w).alloc (Nat.le_refl _) _).alloc (by simp) _
  have hB1 : Hid (∀ o1 : Obj, Below w.heap.size w (w.alloc o1)) := fun o1 => (Below.refl _ w).alloc (Nat.le_refl _) _
  unfold tokV
  by_cases h1 : k = 1
  · subst h1
    obtain ⟨c, hc⟩ : ∃ c, M.wordL.contains tx.data.toList = c := ⟨_, rfl⟩
    rw [hc] at hW
    have hR : Hid (resK 1 tx.data.toList = if c = true then 9 else 1) := by
      show _ = _
      unfold resK; rw [hc]; cases c <;> rfl
    have hW' : Hid _ := hW
    have hk' : Hid _ := hkey
    have hw2 : Hid (w.ownsMap Tryz.prog 9 unitElem bw nw (Dof M.wordL)) := hw
    clear hc hW hS hw hg hkey
    go_enter Tryz.func35, Tryz.ntmps35
    cases c
    · go_wp2_with (at_lookup; refine wpList_lookup_own_unit _ rfl _ _ 67 rfl 9 86 (string_keyed Tryz.underlying9) Tryz.underlying67 (zeroUnit _) bw nw (Dof M.wordL) rfl (hw2.out.alloc _) _ _ rfl hk'.out ?_; rw [hW'.out])
      go_ret
      exact ⟨by rw [hR.out]; rfl, by first | exact hB.out _ _ | exact hB1.out _⟩
    · go_wp2_with (at_lookup; refine wpList_lookup_own_unit _ rfl _ _ 67 rfl 9 86 (string_keyed Tryz.underlying9) Tryz.underlying67 (zeroUnit _) bw nw (Dof M.wordL) rfl (hw2.out.alloc _) _ _ rfl hk'.out ?_; rw [hW'.out])
      go_ret
      exact ⟨by rw [hR.out]; rfl, by first | exact hB.out _ _ | exact hB1.out _⟩
  · have q1 : ((k : Int) == 1) = false := beq_eq_false_iff_ne.2 (by omega)
    by_cases h3 : k = 3
    · subst h3
      obtain ⟨c, hc⟩ : ∃ c, M.signL.contains tx.data.toList = c := ⟨_, rfl⟩
      rw [hc] at hS
      have hR : Hid (resK 3 tx.data.toList = if c = true then 10 else 3) := by
        show _ = _
        unfold resK; rw [hc]; cases c <;> rfl
      have hS' : Hid _ := hS
      have hk' : Hid _ := hkey
      have hg2 : Hid (w.ownsMap Tryz.prog 9 unitElem bg ng (Dof M.signL)) := hg
      clear hc hW hS hw hg hkey
      go_enter Tryz.func35, Tryz.ntmps35
      cases c
      · go_wp2_with (at_lookup; refine wpList_lookup_own_unit _ rfl _ _ 67 rfl 9 86 (string_keyed Tryz.underlying9) Tryz.underlying67 (zeroUnit _) bg ng (Dof M.signL) rfl (hg2.out.alloc _) _ _ rfl hk'.out ?_; rw [hS'.out])
        go_ret
        exact ⟨by rw [hR.out]; rfl, by first | exact hB.out _ _ | exact hB1.out _⟩
      · go_wp2_with (at_lookup; refine wpList_lookup_own_unit _ rfl _ _ 67 rfl 9 86 (string_keyed Tryz.underlying9) Tryz.underlying67 (zeroUnit _) bg ng (Dof M.signL) rfl (hg2.out.alloc _) _ _ rfl hk'.out ?_; rw [hS'.out])
        go_ret
        exact ⟨by rw [hR.out]; rfl, by first | exact hB.out _ _ | exact hB1.out _⟩
    · have q3 : ((k : Int) == 3) = false := beq_eq_false_iff_ne.2 (by omega)
      have hR : Hid (resK k tx.data.toList = k) := by
        show _ = _
        unfold resK; rw [if_neg (fun h => h1 h.1), if_neg (fun h => h3 h.1)]
      clear hW hS hw hg hkey
      go_enter Tryz.func35, Tryz.ntmps35
      go_wp2
      go_ret
      exact ⟨by rw [hR.out]; rfl, by first | exact hB.out _ _ | exact hB1.out _⟩

end Go.Proofs.YtndpebkiiemfpaaGreatDoor
