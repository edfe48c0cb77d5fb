/-
  Digits, numbers and characters of package lex, by contracts.
-/
import Derived.Test.YtndpebkiiemfpaaGreatDoorParse10b8
import Derived.Test.YtndpebkiiemfpaaGreatDoorParse16b8
import Derived.Test.YtndpebkiiemfpaaGreatDoorParse10b63
import Derived.Test.YtndpebkiiemfpaaGreatDoorParse16b63
namespace Go.Proofs.YtndpebkiiemfpaaGreatDoor
open Go.RowKit Go.Shelf
set_option linter.unusedVariables false

set_option maxHeartbeats 4000000 in
set_option maxRecDepth 100000 in
theorem inner_empty (base bits : Int) (w : World) :
    Calls Tryz.prog 179 #[.string ⟨#[]⟩, .int .i64 base, .int .i64 bits] w fun e w' => e = .returned (.tuple #[.int .u64 0, .iface 199 (.int .i64 2)]) ∧ w' = w := by
  go_enter Tryz.func179, Tryz.ntmps179
  go_wp2
  go_ret2
  exact ⟨rfl, rfl⟩

set_option maxHeartbeats 4000000 in
set_option maxRecDepth 100000 in
theorem outer_ok (t : ByteArray) (base bits x : Int) (hin' : ∀ w : World, Calls Tryz.prog 179 #[.string t, .int .i64 base, .int .i64 bits] w fun e w' => e = .returned (.tuple #[.int .u64 x, .nilIface]) ∧ Below w.heap.size w w') (w : World) :
    Calls Tryz.prog 155 #[.string t, .int .i64 base, .int .i64 bits] w fun e w' => e = .returned (.tuple #[.int .u64 x, .nilIface]) ∧ Below w.heap.size w w' := by
  have hin : Hid _ := hin'
  clear hin'
  go_enter Tryz.func155, Tryz.ntmps155
  go_wp2_with (go_at_call 179; refine (hin.out _).mono ?_; rintro e w' ⟨rfl, hb⟩)
  go_ret2
  exact ⟨rfl, hb⟩

set_option maxHeartbeats 4000000 in
set_option maxRecDepth 100000 in
theorem outer_syn (t : ByteArray) (ht : t.size ≤ 70000) (base bits x : Int) (hin' : ∀ w : World, Calls Tryz.prog 179 #[.string t, .int .i64 base, .int .i64 bits] w fun e w' => e = .returned (.tuple #[.int .u64 x, .iface 199 (.int .i64 2)]) ∧ Below w.heap.size w w') (w : World) (hG : GOK w) :
    Calls Tryz.prog 155 #[.string t, .int .i64 base, .int .i64 bits] w fun e w' => ∃ a b, e = .returned (.tuple #[.int .u64 x, .iface a b]) ∧ Below w.heap.size w w' := by
  have hin : Hid _ := hin'
  have hG' : Hid (GOK w) := hG
  clear hin' hG
  go_enter Tryz.func155, Tryz.ntmps155
  go_wp2_with (first
    | (go_at_call 179; refine (hin.out _).mono ?_; rintro e w1 ⟨rfl, hb⟩; obtain ⟨ev, hev1, hev2⟩ := (hG'.out.below hb).syn)
    | (go_at_call 180; refine (Tryz.strconv_toError_syntax _ _ _ _ ev _ (by omega) hev1 hev2).mono ?_; rintro e w2 ⟨N, rfl, _, _, hb2⟩))
  go_ret2
  exact ⟨_, _, rfl, hb.trans (hb2.mono hb.size)⟩

set_option maxHeartbeats 4000000 in
set_option maxRecDepth 100000 in
theorem outer_rng (t : ByteArray) (ht : t.size ≤ 70000) (base bits x : Int) (hin' : ∀ w : World, Calls Tryz.prog 179 #[.string t, .int .i64 base, .int .i64 bits] w fun e w' => e = .returned (.tuple #[.int .u64 x, .iface 199 (.int .i64 1)]) ∧ Below w.heap.size w w') (w : World) (hG : GOK w) :
    Calls Tryz.prog 155 #[.string t, .int .i64 base, .int .i64 bits] w fun e w' => ∃ a b, e = .returned (.tuple #[.int .u64 x, .iface a b]) ∧ Below w.heap.size w w' := by
  have hin : Hid _ := hin'
  have hG' : Hid (GOK w) := hG
  clear hin' hG
  go_enter Tryz.func155, Tryz.ntmps155
  go_wp2_with (first
    | (go_at_call 179; refine (hin.out _).mono ?_; rintro e w1 ⟨rfl, hb⟩; obtain ⟨ev, hev1, hev2⟩ := (hG'.out.below hb).rng)
    | (go_at_call 180; refine (Tryz.strconv_toError_range _ _ _ _ ev _ (by omega) hev1 hev2).mono ?_; rintro e w2 ⟨N, rfl, _, _, hb2⟩))
  go_ret2
  exact ⟨_, _, rfl, hb.trans (hb2.mono hb.size)⟩

/-- What the library answers to digits: the number, if it has no more bits. -/
def Reads (base bits : Nat) : Prop :=
  (∀ t : ByteArray, t.size ≤ 70000 → (∀ c ∈ t.data.toList, M.dig base c = true) → t.size ≠ 0 → M.val base 0 t.data.toList < 2 ^ bits → ∀ w : World,
    Calls Tryz.prog 155 #[.string t, .int .i64 base, .int .i64 bits] w fun e w' => e = .returned (.tuple #[.int .u64 (M.val base 0 t.data.toList : Int), .nilIface]) ∧ Below w.heap.size w w') ∧
  (∀ t : ByteArray, t.size ≤ 70000 → (∀ c ∈ t.data.toList, M.dig base c = true) → (t.size = 0 ∨ 2 ^ bits ≤ M.val base 0 t.data.toList) → ∀ w : World, GOK w →
    Calls Tryz.prog 155 #[.string t, .int .i64 base, .int .i64 bits] w fun e w' => ∃ x a b, e = .returned (.tuple #[.int .u64 x, .iface a b]) ∧ Below w.heap.size w w')

theorem reads_of (base bits mv : Nat) (hmv : mv + 1 = 2 ^ bits) (hb1 : 1 ≤ base)
    (hin : ∀ t : ByteArray, t.size ≠ 0 → t.size ≤ 9223372036854775806 → (∀ c ∈ t.data.toList, M.dig base c = true) → ∀ w : World, Calls Tryz.prog 179 #[.string t, .int .i64 base, .int .i64 bits] w fun e w' => e = .returned (parsed mv (parse base mv 0 t.data.toList)) ∧ Below w.heap.size w w') : Reads base bits := by
  refine ⟨fun t ht hall h0 hv w => ?_, fun t ht hall hor w hG => ?_⟩
  · refine outer_ok t base bits _ (fun w => ?_) w
    have h1 := hin t h0 (by omega) hall w
    rw [parse_eq base mv hb1 _ 0 (by omega), if_neg (by omega)] at h1
    exact h1
  · by_cases h0 : t.size = 0
    · obtain rfl := empty_of h0
      refine (outer_syn _ ht base bits 0 (fun w => (inner_empty base bits w).mono ?_) w hG).mono ?_
      · rintro e w' ⟨rfl, rfl⟩; exact ⟨rfl, Below.refl _ _⟩
      · rintro e w' ⟨a, b, rfl, hb⟩; exact ⟨0, a, b, rfl, hb⟩
    · have hv : 2 ^ bits ≤ M.val base 0 t.data.toList := by
        rcases hor with h | h
        · exact absurd h h0
        · exact h
      refine (outer_rng _ ht base bits mv (fun w => ?_) w hG).mono ?_
      · have h1 := hin t h0 (by omega) hall w
        rw [parse_eq base mv hb1 _ 0 (by omega), if_pos (by omega)] at h1
        exact h1
      · rintro e w' ⟨a, b, rfl, hb⟩; exact ⟨mv, a, b, rfl, hb⟩
theorem reads_10_8 : Reads 10 8 := reads_of 10 8 255 (by decide) (by decide) inner_10_8
theorem reads_16_8 : Reads 16 8 := reads_of 16 8 255 (by decide) (by decide) inner_16_8
theorem reads_10_63 : Reads 10 63 := reads_of 10 63 9223372036854775807 (by decide) (by decide) inner_10_63
theorem reads_16_63 : Reads 16 63 := reads_of 16 63 9223372036854775807 (by decide) (by decide) inner_16_63

set_option maxHeartbeats 4000000 in
set_option maxRecDepth 100000 in
theorem digits_10 (bits : Nat) (hR' : Reads 10 bits) (s : ByteArray) (hs : s.size ≤ 70000) (w : World) (hG' : GOK w) :
    Calls Tryz.prog 117 #[.string s, .int .i64 10, .int .i64 (bits : Int)] w fun e w' => e = .returned (.tuple #[.int .i64 ((M.digs 10 bits s.data.toList).1 : Int), .int .u64 ((M.digs 10 bits s.data.toList).2 : Int)]) ∧ Below w.heap.size w w' := by
  have hR : Hid (Reads 10 bits) := hR'
  have hG : Hid (GOK w) := hG'
  clear hR' hG'
  have hcle : M.cnt (M.dig 10) s.data.toList ≤ s.size := by rw [Lib.size_eq]; exact M.cnt_le _ _
  have hall' := M.cnt_all (M.dig 10) s.data.toList
  have hdef : M.digs 10 bits s.data.toList = if M.cnt (M.dig 10) s.data.toList = 0 ∨ 2 ^ bits ≤ M.val 10 0 (s.data.toList.take (M.cnt (M.dig 10) s.data.toList)) then (0, 0) else (M.cnt (M.dig 10) s.data.toList, M.val 10 0 (s.data.toList.take (M.cnt (M.dig 10) s.data.toList))) := rfl
  obtain ⟨c, hc'⟩ : ∃ c, M.cnt (M.dig 10) s.data.toList = c := ⟨_, rfl⟩
  rw [hc'] at hdef hcle hall'
  have hc : Hid (M.cnt M.digB s.data.toList = c) := hc'
  clear hc'
  have hci : (c : Int) ≤ s.size := by omega
  have ht : (s.extract 0 c).data.toList = s.data.toList.take c := ext_to s c
  have hts : (s.extract 0 c).size = c := by rw [Lib.size_eq, ht, List.length_take, ← Lib.size_eq]; omega
  have hall : Hid (∀ x ∈ (s.extract 0 c).data.toList, M.dig 10 x = true) := by show ∀ x ∈ _, _; rw [ht]; exact hall'
  have htl : Hid ((s.extract 0 c).size ≤ 70000) := by show _ ≤ _; omega
  by_cases hor : c = 0 ∨ 2 ^ bits ≤ M.val 10 0 (s.data.toList.take c)
  · rw [if_pos hor] at hdef
    have hD : Hid (M.digs 10 bits s.data.toList = (0, 0)) := hdef
    have hO : Hid ((s.extract 0 c).size = 0 ∨ 2 ^ bits ≤ M.val 10 0 (s.extract 0 c).data.toList) := by show _ ∨ _; rw [hts, ht]; exact hor
    clear hdef hor ht hts hall'
    go_enter Tryz.func117, Tryz.ntmps117
    go_wp2_with (first
      | (go_at_call 103; refine (count_c _ _ isDigit_f s (by omega) _).mono ?_; rintro e w' ⟨rfl, rfl⟩; rw [hc.out])
      | (go_at_call 155; refine (hR.out.2 _ htl.out hall.out hO.out _ hG.out).mono ?_; rintro e w2 ⟨x, a, b, rfl, hb⟩))
    go_ret2
    exact ⟨by rw [hD.out]; rfl, hb⟩
  · rw [if_neg hor] at hdef
    have h0 : Hid ((s.extract 0 c).size ≠ 0) := by show _ ≠ _; rw [hts]; exact fun h => hor (Or.inl h)
    have hV : Hid (M.val 10 0 (s.extract 0 c).data.toList < 2 ^ bits) := by show _ < _; rw [ht]; exact Nat.lt_of_not_le fun h => hor (Or.inr h)
    have hD : Hid (M.digs 10 bits s.data.toList = (c, M.val 10 0 (s.data.toList.take c))) := hdef
    clear hdef hor ht hts hall'
    go_enter Tryz.func117, Tryz.ntmps117
    go_wp2_with (first
      | (go_at_call 103; refine (count_c _ _ isDigit_f s (by omega) _).mono ?_; rintro e w' ⟨rfl, rfl⟩; rw [hc.out])
      | (go_at_call 155; refine (hR.out.1 _ htl.out hall.out h0.out hV.out _).mono ?_; rintro e w2 ⟨rfl, hb⟩))
    go_ret2
    exact ⟨by rw [hD.out]; rfl, hb⟩

set_option maxHeartbeats 4000000 in
set_option maxRecDepth 100000 in
theorem digits_16 (bits : Nat) (hR' : Reads 16 bits) (s : ByteArray) (hs : s.size ≤ 70000) (w : World) (hG' : GOK w) :
    Calls Tryz.prog 117 #[.string s, .int .i64 16, .int .i64 (bits : Int)] w fun e w' => e = .returned (.tuple #[.int .i64 ((M.digs 16 bits s.data.toList).1 : Int), .int .u64 ((M.digs 16 bits s.data.toList).2 : Int)]) ∧ Below w.heap.size w w' := by
  have hR : Hid (Reads 16 bits) := hR'
  have hG : Hid (GOK w) := hG'
  clear hR' hG'
  have hcle : M.cnt (M.dig 16) s.data.toList ≤ s.size := by rw [Lib.size_eq]; exact M.cnt_le _ _
  have hall' := M.cnt_all (M.dig 16) s.data.toList
  have hdef : M.digs 16 bits s.data.toList = if M.cnt (M.dig 16) s.data.toList = 0 ∨ 2 ^ bits ≤ M.val 16 0 (s.data.toList.take (M.cnt (M.dig 16) s.data.toList)) then (0, 0) else (M.cnt (M.dig 16) s.data.toList, M.val 16 0 (s.data.toList.take (M.cnt (M.dig 16) s.data.toList))) := rfl
  obtain ⟨c, hc'⟩ : ∃ c, M.cnt (M.dig 16) s.data.toList = c := ⟨_, rfl⟩
  rw [hc'] at hdef hcle hall'
  have hc : Hid (M.cnt M.hexB s.data.toList = c) := hc'
  clear hc'
  have hci : (c : Int) ≤ s.size := by omega
  have ht : (s.extract 0 c).data.toList = s.data.toList.take c := ext_to s c
  have hts : (s.extract 0 c).size = c := by rw [Lib.size_eq, ht, List.length_take, ← Lib.size_eq]; omega
  have hall : Hid (∀ x ∈ (s.extract 0 c).data.toList, M.dig 16 x = true) := by show ∀ x ∈ _, _; rw [ht]; exact hall'
  have htl : Hid ((s.extract 0 c).size ≤ 70000) := by show _ ≤ _; omega
  by_cases hor : c = 0 ∨ 2 ^ bits ≤ M.val 16 0 (s.data.toList.take c)
  · rw [if_pos hor] at hdef
    have hD : Hid (M.digs 16 bits s.data.toList = (0, 0)) := hdef
    have hO : Hid ((s.extract 0 c).size = 0 ∨ 2 ^ bits ≤ M.val 16 0 (s.extract 0 c).data.toList) := by show _ ∨ _; rw [hts, ht]; exact hor
    clear hdef hor ht hts hall'
    go_enter Tryz.func117, Tryz.ntmps117
    go_wp2_with (first
      | (go_at_call 103; refine (count_c _ _ isHex_f s (by omega) _).mono ?_; rintro e w' ⟨rfl, rfl⟩; rw [hc.out])
      | (go_at_call 155; refine (hR.out.2 _ htl.out hall.out hO.out _ hG.out).mono ?_; rintro e w2 ⟨x, a, b, rfl, hb⟩))
    go_ret2
    exact ⟨by rw [hD.out]; rfl, hb⟩
  · rw [if_neg hor] at hdef
    have h0 : Hid ((s.extract 0 c).size ≠ 0) := by show _ ≠ _; rw [hts]; exact fun h => hor (Or.inl h)
    have hV : Hid (M.val 16 0 (s.extract 0 c).data.toList < 2 ^ bits) := by show _ < _; rw [ht]; exact Nat.lt_of_not_le fun h => hor (Or.inr h)
    have hD : Hid (M.digs 16 bits s.data.toList = (c, M.val 16 0 (s.data.toList.take c))) := hdef
    clear hdef hor ht hts hall'
    go_enter Tryz.func117, Tryz.ntmps117
    go_wp2_with (first
      | (go_at_call 103; refine (count_c _ _ isHex_f s (by omega) _).mono ?_; rintro e w' ⟨rfl, rfl⟩; rw [hc.out])
      | (go_at_call 155; refine (hR.out.1 _ htl.out hall.out h0.out hV.out _).mono ?_; rintro e w2 ⟨rfl, hb⟩))
    go_ret2
    exact ⟨by rw [hD.out]; rfl, hb⟩

theorem digits_10_8 (s : ByteArray) (hs : s.size ≤ 70000) (w : World) (hG : GOK w) :
    Calls Tryz.prog 117 #[.string s, .int .i64 10, .int .i64 8] w fun e w' => e = .returned (.tuple #[.int .i64 ((M.digs 10 8 s.data.toList).1 : Int), .int .u64 ((M.digs 10 8 s.data.toList).2 : Int)]) ∧ Below w.heap.size w w' :=
  digits_10 8 reads_10_8 s hs w hG
theorem digits_10_63 (s : ByteArray) (hs : s.size ≤ 70000) (w : World) (hG : GOK w) :
    Calls Tryz.prog 117 #[.string s, .int .i64 10, .int .i64 63] w fun e w' => e = .returned (.tuple #[.int .i64 ((M.digs 10 63 s.data.toList).1 : Int), .int .u64 ((M.digs 10 63 s.data.toList).2 : Int)]) ∧ Below w.heap.size w w' :=
  digits_10 63 reads_10_63 s hs w hG
theorem digits_16_8 (s : ByteArray) (hs : s.size ≤ 70000) (w : World) (hG : GOK w) :
    Calls Tryz.prog 117 #[.string s, .int .i64 16, .int .i64 8] w fun e w' => e = .returned (.tuple #[.int .i64 ((M.digs 16 8 s.data.toList).1 : Int), .int .u64 ((M.digs 16 8 s.data.toList).2 : Int)]) ∧ Below w.heap.size w w' :=
  digits_16 8 reads_16_8 s hs w hG
theorem digits_16_63 (s : ByteArray) (hs : s.size ≤ 70000) (w : World) (hG : GOK w) :
    Calls Tryz.prog 117 #[.string s, .int .i64 16, .int .i64 63] w fun e w' => e = .returned (.tuple #[.int .i64 ((M.digs 16 63 s.data.toList).1 : Int), .int .u64 ((M.digs 16 63 s.data.toList).2 : Int)]) ∧ Below w.heap.size w w' :=
  digits_16 63 reads_16_63 s hs w hG

end Go.Proofs.YtndpebkiiemfpaaGreatDoor
