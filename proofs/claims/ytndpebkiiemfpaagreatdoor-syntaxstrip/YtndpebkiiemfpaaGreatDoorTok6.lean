/-
  A token from its lexeme, by a contract.
-/
import Derived.Test.YtndpebkiiemfpaaGreatDoorBlk
namespace Go.Proofs.YtndpebkiiemfpaaGreatDoor
open Go.RowKit Go.Shelf Go.Maps
set_option linter.unusedVariables false

set_option maxHeartbeats 4000000 in
set_option maxRecDepth 100000 in
theorem token_6 (s : ByteArray) (hs : s.size ≤ 70000) (h1 : 1 ≤ s.size) (w : World) (hG' : GOK w) :
    Calls Tryz.prog 34 #[.int .i64 6, .string s] w fun e W' => e = .returned (tokV (M.mkTok 6 s.data.toList).kind (bs (M.mkTok 6 s.data.toList).text) (M.mkTok 6 s.data.toList).num 0 0 0 false) ∧ Below w.heap.size w W' := by
  have hG : Hid (GOK w) := hG'
  clear hG'
  have h1i : (1 : Int) ≤ s.size := by omega
  have hX : ∀ v1 v2 : Array Value, Below w.heap.size w ((w.alloc (.cells v1 39)).alloc (.cells v2 39)) := fun v1 v2 => ((Below.refl _ w).alloc (Nat.le_refl _) _).alloc (by simp) _
  have hT : Hid (M.mkTok 6 s.data.toList = ⟨6, [], (M.character 39 (s.data.toList.drop 1)).2⟩) := rfl
  have hv := M.character_val 39 (s.data.toList.drop 1)
  have hN := character_c (s.extract 1 s.size) 39 (by rw [size_drop]; omega)
  rw [ext_end] at hN
  obtain ⟨⟨n, v⟩, hnv⟩ : ∃ r, M.character 39 (s.data.toList.drop 1) = r := ⟨_, rfl⟩
  rw [hnv] at hT hv hN
  have hN' : Hid _ := hN
  clear hN hnv
  simp only at hv
  go_enter Tryz.func34, Tryz.ntmps34
  go_wp2_with (go_at_call 62; fail)
  refine (hN'.out _ (hG.out.below (hX _ _))).mono ?_
  rintro e w2 ⟨rfl, hb⟩
  have q1 := (((Blk.new w _ _).alloc _).below hb).all7
  have q2 := ((Blk.new (w.alloc _) _ _).below hb).all7
  simp only [World.size_alloc] at q2
  have hB2' := (hX _ _).trans (hb.mono (hX _ _).size)
  have hB2 : Hid (Below w.heap.size w w2) := hB2'
  obtain ⟨ac0, ac1, ac2, ac3, ac4, ac5, ac6, af0, af1, af2, af3, af4, af5, af6⟩ := q1
  obtain ⟨bc0, bc1, bc2, bc3, bc4, bc5, bc6, bf0, bf1, bf2, bf3, bf4, bf5, bf6⟩ := q2
  clear hX hb hB2'
  go_wp2
  exact bodyPost_ret (v := tokV 6 (bs []) v 0 0 0 false) (by simp [results, Tryz.results34, go_sem, tokV, ac0, ac1, ac2, ac3, ac4, ac5, ac6, bs]) rfl ⟨by rw [hT.out], by repeat (first | (refine Below.setCell ?_ (by simp) _) | exact hB2.out)⟩


end Go.Proofs.YtndpebkiiemfpaaGreatDoor
