/-
  Remarks in braces, and marks, by contracts.
-/
import Derived.Test.YtndpebkiiemfpaaGreatDoorPass2
namespace Go.Proofs.YtndpebkiiemfpaaGreatDoor
open Go.RowKit Go.Shelf
set_option linter.unusedVariables false

theorem b_eq {b : UInt8} (c : UInt8) : (c == b) = true ↔ b.toNat = c.toNat := by
  rw [beq_iff_eq]
  exact ⟨fun h => by rw [h], fun h => (UInt8.toNat_inj.1 h).symm⟩
theorem pref_two (c d : UInt8) (l : List UInt8) (h : [c, d].isPrefixOf l = true) : ∃ t, l = c :: d :: t := by
  rw [List.isPrefixOf_iff_prefix] at h
  obtain ⟨t, rfl⟩ := h
  exact ⟨t, rfl⟩
theorem nest_open (d n : Nat) (l : List UInt8) (h : [123, 45].isPrefixOf l = true) : M.nest d n l = M.nest (d + 1) (n + 2) (l.drop 2) ∧ 2 ≤ l.length := by
  obtain ⟨t, rfl⟩ := pref_two _ _ _ h
  refine ⟨?_, by simp⟩
  rw [M.nest, if_pos ⟨by decide, by decide⟩]; rfl
theorem nest_close (d n : Nat) (l : List UInt8) (h : [45, 125].isPrefixOf l = true) : M.nest d n l = (if d = 1 then some (n + 2) else M.nest (d - 1) (n + 2) (l.drop 2)) ∧ 2 ≤ l.length := by
  obtain ⟨t, rfl⟩ := pref_two _ _ _ h
  refine ⟨?_, by simp⟩
  rw [M.nest, if_neg (by decide), if_pos ⟨by decide, by decide⟩]; rfl
theorem nest_other (d n : Nat) (l : List UInt8) (h0 : l ≠ []) (h1 : [123, 45].isPrefixOf l = false) (h2 : [45, 125].isPrefixOf l = false) : M.nest d n l = M.nest d (n + 1) (l.drop 1) := by
  match l with
  | [] => exact absurd rfl h0
  | [b] => rfl
  | b :: c :: t =>
    rw [M.pref2] at h1 h2
    rw [M.nest, if_neg, if_neg]
    · rfl
    · rintro ⟨a1, a2⟩
      rw [(b_eq 45).2 a1, (b_eq 125).2 a2] at h2; simp at h2
    · rintro ⟨a1, a2⟩
      rw [(b_eq 123).2 a1, (b_eq 45).2 a2] at h1; simp at h1

theorem hasP (s p : ByteArray) (k : Nat) : Lib.hasPrefix (s.extract k s.size).data.toList p.data.toList = p.data.toList.isPrefixOf (s.data.toList.drop k) := by rw [ext_end]; rfl

theorem not_prefix_nil (c d : UInt8) : [c, d].isPrefixOf ([] : List UInt8) = false := rfl

set_option maxRecDepth 100000 in
set_option maxHeartbeats 2000000 in
theorem passNested_f : TakeFn 52 M.passNested := by
  refine ⟨fun s hs w _ => ?_, enters_of Tryz.func52 (by kernel_rfl) rfl⟩
  have hlen : s.data.toList.length = s.size := (Lib.size_eq s).symm
  cases hp0 : [123, 45].isPrefixOf s.data.toList with
  | false =>
    have hD : Hid (M.passNested s.data.toList = 0) := by show _ = _; unfold M.passNested; rw [hp0]; rfl
    have hP : Hid (Lib.hasPrefix s.data.toList (ByteArray.mk #[123, 45]).data.toList = false) := hp0
    clear hp0
    go_enter Tryz.func52, Tryz.ntmps52
    go_wp2_with (go_at_call 108; refine (Tryz.strings_HasPrefix _ _ _).mono ?_; rintro e w' ⟨rfl, rfl⟩; rw [hP.out])
    go_ret
    exact ⟨by rw [hD.out]; rfl, Below.refl _ _⟩
  | true =>
    have hD : Hid (M.passNested s.data.toList = (M.nest 0 0 s.data.toList).getD 0) := by show _ = _; unfold M.passNested; rw [hp0]; rfl
    have hP : Hid (Lib.hasPrefix s.data.toList (ByteArray.mk #[123, 45]).data.toList = true) := hp0
    clear hp0
    have hsi : (s.size : Int) ≤ 70000 := by omega
    go_enter Tryz.func52, Tryz.ntmps52
    go_wp2_with (go_at_call 108; refine (Tryz.strings_HasPrefix _ _ _).mono ?_; rintro e w' ⟨rfl, rfl⟩; rw [hP.out])
    go_loop [3, 4] (fun o i => ∃ k d : Nat, k ≤ s.size ∧ d ≤ k ∧ (d = 0 → k = 0) ∧ i = .int .i64 k ∧ o = .int .i64 d ∧ Hid (M.nest 0 0 s.data.toList = M.nest d k (s.data.toList.drop k))) (fun _ i => s.size - (intOf i).toNat)
    case atStart => exact ⟨0, 0, Nat.zero_le _, Nat.le_refl _, fun h => h, rfl, rfl, (by rw [List.drop_zero] : M.nest 0 0 s.data.toList = M.nest 0 0 (s.data.toList.drop 0))⟩
    case round =>
      obtain ⟨k, d, hk, hdk, hd0, rfl, rfl, hf⟩ := hrel
      have hdki : (d : Int) ≤ k := by omega
      by_cases hlt : k < s.size
      · have hki : (k : Int) ≤ s.size := by omega
        cases h1 : [123, 45].isPrefixOf (s.data.toList.drop k) with
        | true =>
          have hst := nest_open d k _ h1
          rw [List.length_drop, hlen] at hst
          have hk2 : k + 2 ≤ s.size := by omega
          have hN : Hid (M.nest 0 0 s.data.toList = M.nest (d + 1) (k + 2) (s.data.toList.drop (k + 2))) := by
            show _ = _
            rw [hf.out, hst.1, List.drop_drop]
          have hP1 : Hid (Lib.hasPrefix (s.extract k s.size).data.toList (ByteArray.mk #[123, 45]).data.toList = true) := by show _ = _; rw [hasP]; exact h1
          clear h1 hst hf
          go_wp2_with (go_at_call 108; refine (Tryz.strings_HasPrefix _ _ _).mono ?_; rintro e w' ⟨rfl, rfl⟩; rw [hP1.out])
          go_round
          case rel => exact ⟨k + 2, d + 1, by omega, by omega, by omega, by go_num, by go_num, hN⟩
          case measure => simp [intOf]; omega
        | false =>
          have hP1 : Hid (Lib.hasPrefix (s.extract k s.size).data.toList (ByteArray.mk #[123, 45]).data.toList = false) := by show _ = _; rw [hasP]; exact h1
          cases h2 : [45, 125].isPrefixOf (s.data.toList.drop k) with
          | true =>
            have hP2 : Hid (Lib.hasPrefix (s.extract k s.size).data.toList (ByteArray.mk #[45, 125]).data.toList = true) := by show _ = _; rw [hasP]; exact h2
            have hst := nest_close d k _ h2
            rw [List.length_drop, hlen] at hst
            have hk2 : k + 2 ≤ s.size := by omega
            have hd1 : 1 ≤ d := by
              rcases Nat.eq_zero_or_pos d with h | h
              · have := hd0 h
                subst this
                have h3 : [123, 45].isPrefixOf (s.data.toList.drop 0) = true := hP.out
                rw [h3] at h1; simp at h1
              · exact h
            by_cases hd2 : d = 1
            · subst hd2
              have hN : Hid (M.passNested s.data.toList = k + 2) := by
                show _ = _
                rw [hD.out, hf.out, hst.1, if_pos rfl]; rfl
              clear h1 h2 hst hf
              go_wp2_with (go_at_call 108; refine (Tryz.strings_HasPrefix _ _ _).mono ?_; rintro e w' ⟨rfl, rfl⟩; first | rw [hP1.out] | rw [hP2.out])
              go_ret
              exact ⟨by rw [hN.out]; exact ret_int (by omega), Below.refl _ _⟩
            · have hN : Hid (M.nest 0 0 s.data.toList = M.nest (d - 1) (k + 2) (s.data.toList.drop (k + 2))) := by
                show _ = _
                rw [hf.out, hst.1, if_neg hd2, List.drop_drop]
              clear h1 h2 hst hf
              have hne : ((d : Int) - 1 == 0) = false := beq_eq_false_iff_ne.2 (by omega)
              go_wp2_with (go_at_call 108; refine (Tryz.strings_HasPrefix _ _ _).mono ?_; rintro e w' ⟨rfl, rfl⟩; first | rw [hP1.out] | rw [hP2.out])
              go_round
              case rel => exact ⟨k + 2, d - 1, by omega, by omega, by omega, by go_num, by congr 1; omega, hN⟩
              case measure => simp [intOf]; omega
          | false =>
            have hP2 : Hid (Lib.hasPrefix (s.extract k s.size).data.toList (ByteArray.mk #[45, 125]).data.toList = false) := by show _ = _; rw [hasP]; exact h2
            have hne : s.data.toList.drop k ≠ [] := by
              intro h
              have := congrArg List.length h
              rw [List.length_drop, hlen] at this
              simp at this; omega
            have hd1 : 1 ≤ d := by
              rcases Nat.eq_zero_or_pos d with h | h
              · have := hd0 h
                subst this
                have h3 : [123, 45].isPrefixOf (s.data.toList.drop 0) = true := hP.out
                rw [h3] at h1; simp at h1
              · exact h
            have hN : Hid (M.nest 0 0 s.data.toList = M.nest d (k + 1) (s.data.toList.drop (k + 1))) := by
              show _ = _
              rw [hf.out, nest_other d k _ hne h1 h2, List.drop_drop]
            clear h1 h2 hne hf
            go_wp2_with (go_at_call 108; refine (Tryz.strings_HasPrefix _ _ _).mono ?_; rintro e w' ⟨rfl, rfl⟩; first | rw [hP1.out] | rw [hP2.out])
            go_round
            case rel => exact ⟨k + 1, d, by omega, by omega, by omega, by go_num, rfl, hN⟩
            case measure => simp [intOf]; omega
      · have hN : Hid (M.passNested s.data.toList = 0) := by
          show _ = _
          rw [hD.out, hf.out, List.drop_eq_nil_of_le (by omega)]; rfl
        clear hf
        go_wp2
        go_ret
        exact ⟨by rw [hN.out]; rfl, Below.refl _ _⟩

set_option maxRecDepth 100000 in
set_option maxHeartbeats 1000000 in
theorem takeMark_f : TakeFn 60 M.takeMark := by
  refine ⟨fun s hs w _ => ?_, enters_of Tryz.func60 (by kernel_rfl) rfl⟩
  by_cases h0 : s.size = 0
  · obtain rfl := empty_of h0
    go_enter Tryz.func60, Tryz.ntmps60
    go_wp2
    go_ret
    exact ⟨rfl, Below.refl _ _⟩
  · have hlt : 0 < s.size := by omega
    have hne := ne_empty hlt
    have hcons := cons_of hlt
    have htm : M.takeMark s.data.toList = if [123, 45].isPrefixOf s.data.toList then 0 else if M.markL.contains s[0] then 1 else 0 := by
      conv => lhs; rw [hcons]
      rw [M.takeMark_cons, ← hcons]
    clear hcons
    cases h1 : [123, 45].isPrefixOf s.data.toList with
    | true =>
      have hP : Hid (Lib.hasPrefix s.data.toList (ByteArray.mk #[123, 45]).data.toList = true) := h1
      rw [h1, if_pos rfl] at htm
      have hD : Hid (M.takeMark s.data.toList = 0) := htm
      clear htm h1
      go_enter Tryz.func60, Tryz.ntmps60
      go_wp2_with (go_at_call 108; refine (Tryz.strings_HasPrefix _ _ _).mono ?_; rintro e w' ⟨rfl, rfl⟩; rw [hP.out])
      go_ret
      exact ⟨by rw [hD.out]; rfl, Below.refl _ _⟩
    | false =>
      have hP : Hid (Lib.hasPrefix s.data.toList (ByteArray.mk #[123, 45]).data.toList = false) := h1
      rw [h1, if_neg (by simp), ← idx_mem] at htm
      obtain ⟨v, hv'⟩ : ∃ v, Lib.indexByte M.markL s[0] = v := ⟨_, rfl⟩
      rw [hv'] at htm
      have hv : Hid (Lib.indexByte M.markL s[0] = v) := hv'
      clear hv' h1
      by_cases h2 : v < 0
      · have hD : Hid (M.takeMark s.data.toList = 0) := by show _ = _; rw [htm, if_neg (by simp; omega)]
        clear htm
        go_enter Tryz.func60, Tryz.ntmps60
        go_wp2_with (first
          | (go_at_call 108; refine (Tryz.strings_HasPrefix _ _ _).mono ?_; rintro e w' ⟨rfl, rfl⟩; rw [hP.out])
          | (go_at_call 107; refine (Tryz.strings_IndexByte _ _ _).mono ?_; rintro e w' ⟨rfl, rfl⟩; rw [toU8, show (ByteArray.mk #[40, 41, 91, 93, 44, 59, 96, 123, 125]).data.toList = M.markL from rfl, hv.out]))
        go_ret
        exact ⟨by rw [hD.out]; rfl, Below.refl _ _⟩
      · have hD : Hid (M.takeMark s.data.toList = 1) := by show _ = _; rw [htm, if_pos (by simp; omega)]
        clear htm
        go_enter Tryz.func60, Tryz.ntmps60
        go_wp2_with (first
          | (go_at_call 108; refine (Tryz.strings_HasPrefix _ _ _).mono ?_; rintro e w' ⟨rfl, rfl⟩; rw [hP.out])
          | (go_at_call 107; refine (Tryz.strings_IndexByte _ _ _).mono ?_; rintro e w' ⟨rfl, rfl⟩; rw [toU8, show (ByteArray.mk #[40, 41, 91, 93, 44, 59, 96, 123, 125]).data.toList = M.markL from rfl, hv.out]))
        go_ret
        exact ⟨by rw [hD.out]; rfl, Below.refl _ _⟩

end Go.Proofs.YtndpebkiiemfpaaGreatDoor
