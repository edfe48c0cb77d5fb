/-
  How many bytes the lexemes of plain sorts take, by contracts.
-/
import Derived.Test.YtndpebkiiemfpaaGreatDoorPred
namespace Go.Proofs.YtndpebkiiemfpaaGreatDoor
open Go.RowKit Go.Shelf
set_option linter.unusedVariables false

theorem ext_end (s : ByteArray) (a : Nat) : (s.extract a s.size).data.toList = s.data.toList.drop a := by
  rw [Lib.extract_eq]
  show (List.take (s.size - a) (s.data.toList.drop a)) = _
  rw [List.take_of_length_le (by rw [List.length_drop, Lib.size_eq]; exact Nat.le_refl _)]
theorem ext_to (s : ByteArray) (n : Nat) : (s.extract 0 n).data.toList = s.data.toList.take n := by
  rw [Lib.extract_eq]
  rfl
theorem size_drop (s : ByteArray) (a : Nat) : (s.extract a s.size).size = s.size - a := by
  rw [Lib.size_eq, ext_end, List.length_drop, Lib.size_eq]
theorem empty_of {s : ByteArray} (h : s.size = 0) : s = ⟨#[]⟩ := by
  have h1 : s.data.toList = [] := List.eq_nil_of_length_eq_zero (by rw [← Lib.size_eq]; exact h)
  cases s with | mk d => exact congrArg ByteArray.mk (Array.toList_inj.1 h1)
theorem cons_of {s : ByteArray} (h : 0 < s.size) : s.data.toList = s[0] :: s.data.toList.drop 1 := by
  have := List.drop_eq_getElem_cons (l := s.data.toList) (i := 0) (by rw [← Lib.size_eq]; exact h)
  rw [List.drop_zero] at this
  exact this
theorem ne_empty {s : ByteArray} (h : 0 < s.size) : s.toList.isEmpty = false := by
  rw [ByteArray.toList_eq, List.isEmpty_eq_false_iff]
  intro h1
  have : s.size = 0 := by rw [Lib.size_eq, h1]; rfl
  omega

theorem ret_int {a b : Int} (h : a = b) : Ending.returned (.int .i64 a) = .returned (.int .i64 b) := by rw [h]

set_option maxRecDepth 100000 in
set_option maxHeartbeats 1000000 in
theorem headed_c (g h : Nat) (p q : UInt8 → Bool) (hp' : ByteFn g p) (hq' : ByteFn h q) (s : ByteArray) (hs : s.size ≤ 9223372036854775806) (w : World) :
    Calls Tryz.prog 109 #[.string s, .func (.func g) #[] #[], .func (.func h) #[] #[]] w fun e w' => e = .returned (.int .i64 (M.headed p q s.data.toList)) ∧ w' = w := by
  have hp : Hid (∀ (b : UInt8) (w : World), Calls Tryz.prog g #[.int .u8 (b.toNat : Int)] w fun e w' => e = .returned (.bool (p b)) ∧ w' = w) := hp'.1
  have eg : ∀ (args : Array Value) (w : World), (callFunc g args).run Tryz.prog w = .ok (.enter g args) w := hp'.2
  have hq : Hid (ByteFn h q) := hq'
  clear hp' hq'
  by_cases h0 : s.size = 0
  · obtain rfl := empty_of h0
    go_enter Tryz.func109, Tryz.ntmps109
    go_wp2
    go_ret
    exact ⟨rfl, rfl⟩
  · have hlt : 0 < s.size := by omega
    have h1 : (1 : Int) ≤ s.size := by omega
    have hne := ne_empty hlt
    have hc : Hid (s.data.toList = s[0] :: s.data.toList.drop 1) := cons_of hlt
    have he : Hid ((s.extract 1 s.size).data.toList = s.data.toList.drop 1) := ext_end s 1
    have hcl : M.cnt q (s.data.toList.drop 1) ≤ s.size - 1 := by
      refine Nat.le_trans (M.cnt_le _ _) ?_
      rw [List.length_drop, ← Lib.size_eq]; exact Nat.le_refl _
    obtain ⟨c, hcd'⟩ : ∃ c, M.cnt q (s.data.toList.drop 1) = c := ⟨_, rfl⟩
    rw [hcd'] at hcl
    have hcd : Hid (M.cnt q (s.data.toList.drop 1) = c) := hcd'
    clear hcd'
    have hss : (s.extract 1 s.size).size ≤ 9223372036854775806 := by rw [size_drop]; omega
    cases hpb : p s[0] with
    | true =>
      have hP : Hid (p s[0] = true) := hpb
      clear hpb
      go_enter Tryz.func109, Tryz.ntmps109
      go_wp2_with (first
        | (go_at_fn g; refine (hp.out s[0] _).mono ?_; rintro e w' ⟨rfl, rfl⟩; rw [hP.out])
        | (go_at_call 103; refine (count_c h q hq.out _ (by omega) _).mono ?_; rintro e w' ⟨rfl, rfl⟩; rw [he.out, hcd.out]))
      go_ret
      refine ⟨?_, rfl⟩
      rw [hc.out, M.headed_cons, hP.out, if_pos rfl]
      rw [hcd.out]
      exact ret_int (by omega)
    | false =>
      have hP : Hid (p s[0] = false) := hpb
      clear hpb
      go_enter Tryz.func109, Tryz.ntmps109
      go_wp2_with (first
        | (go_at_fn g; refine (hp.out s[0] _).mono ?_; rintro e w' ⟨rfl, rfl⟩; rw [hP.out]))
      go_ret
      refine ⟨?_, rfl⟩
      rw [hc.out, M.headed_cons, hP.out, if_neg (by simp)]
      rfl

end Go.Proofs.YtndpebkiiemfpaaGreatDoor
