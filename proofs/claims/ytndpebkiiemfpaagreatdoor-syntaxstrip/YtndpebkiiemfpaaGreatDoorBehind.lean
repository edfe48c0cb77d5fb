/-
  A place further on, by a contract.
-/
import Derived.Test.YtndpebkiiemfpaaGreatDoorLong
namespace Go.Proofs.YtndpebkiiemfpaaGreatDoor
open Go.RowKit Go.Shelf
set_option linter.unusedVariables false

def placeV (a l c : Nat) : Value := .agg #[.int .i64 (a : Int), .int .i64 (l : Int), .int .i64 (c : Int)]

theorem mv_snoc (p : Nat × Nat) (l : List UInt8) (b : UInt8) : M.mv p (l ++ [b]) = M.mv1 (M.mv p l) b := by simp [M.mv]
theorem mv_next (s : ByteArray) (a k : Nat) (h : a + k < s.size) (p : Nat × Nat) : M.mv p ((s.data.toList.drop a).take (k + 1)) = M.mv1 (M.mv p ((s.data.toList.drop a).take k)) s[a + k] := by
  have hl : s.data.toList.length = s.size := (Lib.size_eq s).symm
  have h1 : k < (s.data.toList.drop a).length := by rw [List.length_drop]; omega
  rw [List.take_succ_eq_append_getElem h1, mv_snoc]
  congr 1
  rw [List.getElem_drop]
  rfl

set_option maxHeartbeats 4000000 in
set_option maxRecDepth 100000 in
theorem behind_c (s : ByteArray) (a l c n : Nat) (hs : s.size ≤ 70000) (ha : a + n ≤ s.size) (hl : l ≤ 1000000) (hc1 : 1 ≤ c) (hc : c ≤ 1000000) (w : World) :
    Calls Tryz.prog 31 #[placeV a l c, .string s, .int .i64 (n : Int)] w fun e w' => e = .returned (placeV (a + n) (M.mv (l, c) ((s.data.toList.drop a).take n)).1 (M.mv (l, c) ((s.data.toList.drop a).take n)).2) ∧ Below w.heap.size w w' := by
  unfold placeV
  go_enter Tryz.func31, Tryz.ntmps31
  go_wp2
  go_loopw [8] (fun i wr => ∃ (k j L C : Nat), k ≤ n ∧ Hid (j = a + k) ∧ i = .int .i64 k ∧ L ≤ l + k ∧ 1 ≤ C ∧ C ≤ c + 8 * k ∧ Hid (M.mv (l, c) ((s.data.toList.drop a).take k) = (L, C)) ∧
      wr = (w.alloc (.cells #[.int .i64 (j : Int), .int .i64 (L : Int), .int .i64 (C : Int)] 70)).alloc (.cells #[.int .i64 0, .int .i64 0, .int .i64 0] 70)) (fun i _ => n - (intOf i).toNat)
  case atStart => exact ⟨0, a, l, c, Nat.zero_le _, (rfl : a = a + 0), rfl, by omega, hc1, by omega, (by rw [List.take_zero]; rfl : M.mv (l, c) ((s.data.toList.drop a).take 0) = (l, c)), by simp⟩
  case round =>
    obtain ⟨k, j, L, C, hk, hj, rfl, hL, hC1, hC, hm, rfl⟩ := hrel
    by_cases hlt : k < n
    · have hjs : j < s.size := by have := hj.out; omega
      have hmn := mv_next s a k (by omega) (l, c)
      rw [hm.out] at hmn
      have hmn' : M.mv (l, c) ((s.data.toList.drop a).take (k + 1)) = M.mv1 (L, C) s[j] := by
        have hj' := hj.out; subst hj'; exact hmn
      have hmd : M.mv1 (L, C) s[j] = if s[j].toNat = 10 then (L + 1, 1) else if s[j].toNat = 9 then (L, C + 8 - (C - 1) % 8) else (L, C + 1) := rfl
      rw [hmd] at hmn'
      clear hmn hmd hm
      have hb256 : s[j].toNat < 256 := s[j].toNat_lt
      by_cases h10 : s[j].toNat = 10
      · rw [if_pos h10] at hmn'
        have hM : Hid (M.mv (l, c) ((s.data.toList.drop a).take (k + 1)) = (L + 1, 1)) := hmn'
        have q : ((s[j].toNat : Int) == 10) = true := beq_iff_eq.2 (by omega)
        clear hmn' h10
        go_wp2
        go_roundw
        case rel => exact ⟨k + 1, j + 1, L + 1, 1, by omega, (by have := hj.out; omega : j + 1 = a + (k + 1)), by go_num, by omega, by omega, by omega, hM, by simp⟩
        case measure => simp [intOf]; omega
      · rw [if_neg h10] at hmn'
        have q10 : ((s[j].toNat : Int) == 10) = false := beq_eq_false_iff_ne.2 (by omega)
        clear h10
        by_cases h9 : s[j].toNat = 9
        · rw [if_pos h9] at hmn'
          have hM : Hid (M.mv (l, c) ((s.data.toList.drop a).take (k + 1)) = (L, C + 8 - (C - 1) % 8)) := hmn'
          have q : ((s[j].toNat : Int) == 9) = true := beq_iff_eq.2 (by omega)
          clear hmn' h9
          go_wp2
          go_roundw
          case rel =>
            refine ⟨k + 1, j + 1, L, C + 8 - (C - 1) % 8, by omega, (by have := hj.out; omega : j + 1 = a + (k + 1)), by go_num, by omega, by omega, by omega, hM, ?_⟩
            have he : ((C + 8 - (C - 1) % 8 : Nat) : Int) = (C : Int) + (8 - ((C : Int) - 1) % 8) := by omega
            rw [he]
            simp
          case measure => simp [intOf]; omega
        · rw [if_neg h9] at hmn'
          have hM : Hid (M.mv (l, c) ((s.data.toList.drop a).take (k + 1)) = (L, C + 1)) := hmn'
          have q9 : ((s[j].toNat : Int) == 9) = false := beq_eq_false_iff_ne.2 (by omega)
          clear hmn' h9
          go_wp2
          go_roundw
          case rel => exact ⟨k + 1, j + 1, L, C + 1, by omega, (by have := hj.out; omega : j + 1 = a + (k + 1)), by go_num, by omega, by omega, by omega, hM, by simp⟩
          case measure => simp [intOf]; omega
    · obtain rfl : k = n := by omega
      have hB : Below w.heap.size w ((w.alloc (.cells #[.int .i64 (j : Int), .int .i64 (L : Int), .int .i64 (C : Int)] 70)).alloc (.cells #[.int .i64 (j : Int), .int .i64 (L : Int), .int .i64 (C : Int)] 70)) :=
        ((Below.refl _ w).alloc (Nat.le_refl _) _).alloc (by simp) _
      go_wp2
      exact bodyPost_ret (v := .agg #[.int .i64 (j : Int), .int .i64 (L : Int), .int .i64 (C : Int)]) (by simp [results, Tryz.results31, go_sem]) rfl ⟨by rw [hm.out, hj.out], hB⟩

end Go.Proofs.YtndpebkiiemfpaaGreatDoor
