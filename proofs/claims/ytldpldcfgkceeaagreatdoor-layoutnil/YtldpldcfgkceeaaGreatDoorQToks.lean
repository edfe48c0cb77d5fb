/-
  A token from its lexeme, by a contract.
  A token from its lexeme, by a contract.
  A token from its lexeme, by a contract.
  A token from its lexeme, by a contract.
-/
import Derived.Test.YtldpldcfgkceeaaGreatDoorQBlk
namespace Go.Proofs.YtldpldcfgkceeaaGreatDoor
open Go.RowKit Go.Shelf Go.Maps
set_option linter.unusedVariables false

set_option maxHeartbeats 4000000 in
set_option maxRecDepth 100000 in
theorem token_5 (s : ByteArray) (hs : s.size ≤ 70000) (h1 : 1 ≤ s.size) (w : World) (hG' : GOK w) :
    Calls Tryz.prog 38 #[.int .i64 5, .string s] w fun e W' => e = .returned (tokV (M.mkTok 5 s.data.toList).kind (bs (M.mkTok 5 s.data.toList).text) (M.mkTok 5 s.data.toList).num 0 0 0 false) ∧ Below w.heap.size w W' := by
  have hG : Hid (GOK w) := hG'
  clear hG'
  have h1i : (1 : Int) ≤ s.size := by omega
  have hX : ∀ v1 v2 : Array Value, Below w.heap.size w ((w.alloc (.cells v1 43)).alloc (.cells v2 43)) := fun v1 v2 => ((Below.refl _ w).alloc (Nat.le_refl _) _).alloc (by simp) _
  have hT : Hid (M.mkTok 5 s.data.toList = ⟨5, [], (M.number s.data.toList).2⟩) := rfl
  have hv := M.number_val s.data.toList
  have hN := number_c s hs
  obtain ⟨⟨n, v⟩, hnv⟩ : ∃ r, M.number s.data.toList = r := ⟨_, rfl⟩
  rw [hnv] at hT hv hN
  have hN' : Hid _ := hN
  clear hN hnv
  simp only at hv
  go_enter Tryz.func38, Tryz.ntmps38
  go_wp2_with (go_at_call 68; fail)
  refine (hN'.out _ (hG.out.below (hX _ _))).mono ?_
  rintro e w2 ⟨rfl, hb⟩
  have q1 := (((Blk.new w _ _).alloc _).below hb).all7
  have q2 := ((Blk.new (w.alloc _) _ _).below hb).all7
  simp only [World.size_alloc] at q2
  have hB2' := (hX _ _).trans (hb.mono (hX _ _).size)
  have hB2 : Hid (Below w.heap.size w w2) := hB2'
  obtain ⟨ac0, ac1, ac2, ac3, ac4, ac5, ac6, af0, af1, af2, af3, af4, af5, af6⟩ := q1
  obtain ⟨bc0, bc1, bc2, bc3, bc4, bc5, bc6, bf0, bf1, bf2, bf3, bf4, bf5, bf6⟩ := q2
  clear hX hb hB2'
  go_wp2
  exact bodyPost_ret (v := tokV 5 (bs []) v 0 0 0 false) (by simp [results, Tryz.results38, go_sem, tokV, ac0, ac1, ac2, ac3, ac4, ac5, ac6, bs]) rfl ⟨by rw [hT.out], by repeat (first | (refine Below.setCell ?_ (by simp) _) | exact hB2.out)⟩


end Go.Proofs.YtldpldcfgkceeaaGreatDoor

namespace Go.Proofs.YtldpldcfgkceeaaGreatDoor
open Go.RowKit Go.Shelf Go.Maps
set_option linter.unusedVariables false

set_option maxHeartbeats 4000000 in
set_option maxRecDepth 100000 in
theorem token_6 (s : ByteArray) (hs : s.size ≤ 70000) (h1 : 1 ≤ s.size) (w : World) (hG' : GOK w) :
    Calls Tryz.prog 38 #[.int .i64 6, .string s] w fun e W' => e = .returned (tokV (M.mkTok 6 s.data.toList).kind (bs (M.mkTok 6 s.data.toList).text) (M.mkTok 6 s.data.toList).num 0 0 0 false) ∧ Below w.heap.size w W' := by
  have hG : Hid (GOK w) := hG'
  clear hG'
  have h1i : (1 : Int) ≤ s.size := by omega
  have hX : ∀ v1 v2 : Array Value, Below w.heap.size w ((w.alloc (.cells v1 43)).alloc (.cells v2 43)) := fun v1 v2 => ((Below.refl _ w).alloc (Nat.le_refl _) _).alloc (by simp) _
  have hT : Hid (M.mkTok 6 s.data.toList = ⟨6, [], (M.character 39 (s.data.toList.drop 1)).2⟩) := rfl
  have hv := M.character_val 39 (s.data.toList.drop 1)
  have hN := character_c (s.extract 1 s.size) 39 (by rw [size_drop]; omega)
  rw [ext_end] at hN
  obtain ⟨⟨n, v⟩, hnv⟩ : ∃ r, M.character 39 (s.data.toList.drop 1) = r := ⟨_, rfl⟩
  rw [hnv] at hT hv hN
  have hN' : Hid _ := hN
  clear hN hnv
  simp only at hv
  go_enter Tryz.func38, Tryz.ntmps38
  go_wp2_with (go_at_call 69; fail)
  refine (hN'.out _ (hG.out.below (hX _ _))).mono ?_
  rintro e w2 ⟨rfl, hb⟩
  have q1 := (((Blk.new w _ _).alloc _).below hb).all7
  have q2 := ((Blk.new (w.alloc _) _ _).below hb).all7
  simp only [World.size_alloc] at q2
  have hB2' := (hX _ _).trans (hb.mono (hX _ _).size)
  have hB2 : Hid (Below w.heap.size w w2) := hB2'
  obtain ⟨ac0, ac1, ac2, ac3, ac4, ac5, ac6, af0, af1, af2, af3, af4, af5, af6⟩ := q1
  obtain ⟨bc0, bc1, bc2, bc3, bc4, bc5, bc6, bf0, bf1, bf2, bf3, bf4, bf5, bf6⟩ := q2
  clear hX hb hB2'
  go_wp2
  exact bodyPost_ret (v := tokV 6 (bs []) v 0 0 0 false) (by simp [results, Tryz.results38, go_sem, tokV, ac0, ac1, ac2, ac3, ac4, ac5, ac6, bs]) rfl ⟨by rw [hT.out], by repeat (first | (refine Below.setCell ?_ (by simp) _) | exact hB2.out)⟩


end Go.Proofs.YtldpldcfgkceeaaGreatDoor

namespace Go.Proofs.YtldpldcfgkceeaaGreatDoor
open Go.RowKit Go.Shelf Go.Maps
set_option linter.unusedVariables false

set_option maxHeartbeats 4000000 in
set_option maxRecDepth 100000 in
theorem token_7 (s : ByteArray) (hs : s.size ≤ 70000) (h1 : 1 ≤ s.size) (w : World) (hG' : GOK w) :
    Calls Tryz.prog 38 #[.int .i64 7, .string s] w fun e W' => e = .returned (tokV (M.mkTok 7 s.data.toList).kind (bs (M.mkTok 7 s.data.toList).text) (M.mkTok 7 s.data.toList).num 0 0 0 false) ∧ Below w.heap.size w W' := by
  have hG : Hid (GOK w) := hG'
  clear hG'
  have h1i : (1 : Int) ≤ s.size := by omega
  have hX : ∀ v1 v2 : Array Value, Below w.heap.size w ((w.alloc (.cells v1 43)).alloc (.cells v2 43)) := fun v1 v2 => ((Below.refl _ w).alloc (Nat.le_refl _) _).alloc (by simp) _
  have hT : Hid (M.mkTok 7 s.data.toList = ⟨7, (M.chars s.data.toList).2, 0⟩) := rfl
  have hN := characters_c s hs
  obtain ⟨⟨n, x⟩, hnv⟩ : ∃ r, M.chars s.data.toList = r := ⟨_, rfl⟩
  rw [hnv] at hT hN
  have hN' : Hid _ := hN
  clear hN hnv
  go_enter Tryz.func38, Tryz.ntmps38
  go_wp2_with (go_at_call 70; fail)
  refine (hN'.out _ (hG.out.below (hX _ _))).mono ?_
  rintro e w2 ⟨v, rfl, hown, hb⟩
  have hcv := own_convert x hown
  clear hown
  have q1 := (((Blk.new w _ _).alloc _).below hb).all7
  have q2 := ((Blk.new (w.alloc _) _ _).below hb).all7
  simp only [World.size_alloc] at q2
  have hB2' := (hX _ _).trans (hb.mono (hX _ _).size)
  have hB2 : Hid (Below w.heap.size w w2) := hB2'
  obtain ⟨ac0, ac1, ac2, ac3, ac4, ac5, ac6, af0, af1, af2, af3, af4, af5, af6⟩ := q1
  obtain ⟨bc0, bc1, bc2, bc3, bc4, bc5, bc6, bf0, bf1, bf2, bf3, bf4, bf5, bf6⟩ := q2
  clear hX hb hB2'
  go_wp2
  exact bodyPost_ret (v := tokV 7 (bs x) 0 0 0 0 false) (by simp [results, Tryz.results38, go_sem, tokV, ac0, ac1, ac2, ac3, ac4, ac5, ac6, bs]) rfl ⟨by rw [hT.out], by repeat (first | (refine Below.setCell ?_ (by simp) _) | exact hB2.out)⟩


end Go.Proofs.YtldpldcfgkceeaaGreatDoor

namespace Go.Proofs.YtldpldcfgkceeaaGreatDoor
open Go.RowKit Go.Shelf Go.Maps
set_option linter.unusedVariables false

set_option maxHeartbeats 4000000 in
set_option maxRecDepth 100000 in
theorem token_d (k : Nat) (h5 : ¬ k = 5) (h6 : ¬ k = 6) (h7 : ¬ k = 7) (s : ByteArray) (hs : s.size ≤ 70000) (h1 : 1 ≤ s.size) (w : World) (hG' : GOK w) :
    Calls Tryz.prog 38 #[.int .i64 (k : Int), .string s] w fun e W' => e = .returned (tokV (M.mkTok k s.data.toList).kind (bs (M.mkTok k s.data.toList).text) (M.mkTok k s.data.toList).num 0 0 0 false) ∧ Below w.heap.size w W' := by
  have hG : Hid (GOK w) := hG'
  clear hG'
  have h1i : (1 : Int) ≤ s.size := by omega
  have hX : ∀ v1 v2 : Array Value, Below w.heap.size w ((w.alloc (.cells v1 43)).alloc (.cells v2 43)) := fun v1 v2 => ((Below.refl _ w).alloc (Nat.le_refl _) _).alloc (by simp) _
  have hT : Hid (M.mkTok k s.data.toList = ⟨k, s.data.toList, 0⟩) := by
    show _ = _
    unfold M.mkTok; rw [if_neg h5, if_neg h6, if_neg h7]
  have q5 : ((k : Int) == 5) = false := beq_eq_false_iff_ne.2 (by omega)
  have q6 : ((k : Int) == 6) = false := beq_eq_false_iff_ne.2 (by omega)
  have q7 : ((k : Int) == 7) = false := beq_eq_false_iff_ne.2 (by omega)
  have HX : Hid _ := hX
  clear hX
  go_enter Tryz.func38, Tryz.ntmps38
  go_wp2
  exact bodyPost_ret (v := tokV k s 0 0 0 0 false) (by simp [results, Tryz.results38, go_sem, tokV]) rfl ⟨by rw [hT.out, bs_back], HX.out _ _⟩



end Go.Proofs.YtldpldcfgkceeaaGreatDoor
