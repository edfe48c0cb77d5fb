/-
  Characters of package lex, by contracts.
-/
import Derived.Test.YtndpebkiiemfpaaGreatDoorChars
namespace Go.Proofs.YtndpebkiiemfpaaGreatDoor
open Go.RowKit Go.Shelf
set_option linter.unusedVariables false

theorem byte_eq {a b : UInt8} (h : a = b) : ((a.toNat : Int) == (b.toNat : Int)) = true := by rw [h]; simp
theorem byte_ne {a b : UInt8} (h : ¬ a = b) : ((a.toNat : Int) == (b.toNat : Int)) = false := by
  rw [beq_eq_false_iff_ne]
  intro h1
  exact h (UInt8.toNat_inj.1 (by omega))

set_option maxHeartbeats 8000000 in
set_option maxRecDepth 100000 in
theorem character_c (s : ByteArray) (q : UInt8) (hs : s.size ≤ 70000) (w : World) (hG' : GOK w) :
    Calls Tryz.prog 62 #[.string s, .int .u8 (q.toNat : Int)] w fun e w' => e = .returned (.tuple #[.int .i64 ((M.character q s.data.toList).1 : Int), .int .u8 ((M.character q s.data.toList).2 : Int)]) ∧ Below w.heap.size w w' := by
  have hG : Hid (GOK w) := hG'
  have hdep : Tryz.prog.follows Departure.mixedOrders = true := by kernel_rfl
  clear hG'
  have hq256 : q.toNat < 256 := q.toNat_lt
  by_cases h0 : s.size = 0
  · obtain rfl := empty_of h0
    go_enter Tryz.func62, Tryz.ntmps62
    go_wp2
    go_ret2
    exact ⟨rfl, Below.refl _ _⟩
  · have hlt : 0 < s.size := by omega
    have h1 : (1 : Int) ≤ s.size := by omega
    have hne := ne_empty hlt
    have hcons := cons_of hlt
    have hE := M.character_cons q s[0] (s.data.toList.drop 1)
    rw [← hcons] at hE
    clear hcons
    have hb256 : s[0].toNat < 256 := s[0].toNat_lt
    by_cases hb : s[0] = q
    · rw [if_pos (Or.inl hb)] at hE
      have hE' : Hid (M.character q s.data.toList = (0, 0)) := hE
      have hq := byte_eq hb
      clear hE hb
      go_enter Tryz.func62, Tryz.ntmps62
      go_wp2
      go_ret2
      exact ⟨by rw [hE'.out]; rfl, Below.refl _ _⟩
    · have hq := byte_ne hb
      cases hp : M.plainB s[0] with
      | false =>
        rw [if_pos (Or.inr hp)] at hE
        have hE' : Hid (M.character q s.data.toList = (0, 0)) := hE
        have hP : Hid (M.plainB s[0] = false) := hp
        clear hE hb hp
        go_enter Tryz.func62, Tryz.ntmps62
        go_wp2_with (go_at_call 118; refine (isPlain_c s[0] _).mono ?_; rintro e w' ⟨rfl, rfl⟩; rw [hP.out])
        go_ret2
        exact ⟨by rw [hE'.out]; rfl, Below.refl _ _⟩
      | true =>
        rw [if_neg (by intro h; rcases h with h | h; exact hb h; rw [hp] at h; simp at h)] at hE
        have hP : Hid (M.plainB s[0] = true) := hp
        clear hb hp
        by_cases h92 : s[0].toNat = 92
        · rw [if_pos h92, ← ext_end] at hE
          have q92 : ((s[0].toNat : Int) == 92) = true := beq_iff_eq.2 (by omega)
          clear h92
          have hts : (s.extract 1 s.size).size ≤ 70000 := by rw [size_drop]; omega
          have hle := M.escape_le (s.extract 1 s.size).data.toList
          have hD := escape_c (s.extract 1 s.size) hts
          obtain ⟨⟨n, v⟩, hd⟩ : ∃ r, M.escape (s.extract 1 s.size).data.toList = r := ⟨_, rfl⟩
          rw [hd] at hD hE hle
          rw [← Lib.size_eq] at hle
          have hD' : Hid _ := hD
          clear hD hd
          simp only at hle
          by_cases hn : n = 0
          · subst hn
            have hE' : Hid (M.character q s.data.toList = (0, 0)) := hE
            clear hE
            go_enter Tryz.func62, Tryz.ntmps62
            go_wp2_with (first
              | (go_at_call 118; refine (isPlain_c s[0] _).mono ?_; rintro e w' ⟨rfl, rfl⟩; rw [hP.out])
              | (go_at_call 119; refine (hD'.out _ hG.out).mono ?_; rintro e w2 ⟨rfl, hb⟩))
            go_ret2
            exact ⟨by rw [hE'.out]; rfl, hb⟩
          · have hE' : Hid (M.character q s.data.toList = (n + 1, v)) := by show _ = _; rw [hE, up_cases, if_neg hn]
            have hnz : ((n : Int) == 0) = false := beq_eq_false_iff_ne.2 (by omega)
            clear hE
            go_enter Tryz.func62, Tryz.ntmps62
            go_wp2_with (first
              | (go_at_call 118; refine (isPlain_c s[0] _).mono ?_; rintro e w' ⟨rfl, rfl⟩; rw [hP.out])
              | (go_at_call 119; refine (hD'.out _ hG.out).mono ?_; rintro e w2 ⟨rfl, hb⟩))
            go_ret2
            exact ⟨by rw [hE'.out]; rfl, hb⟩
        · rw [if_neg h92] at hE
          have hE' : Hid (M.character q s.data.toList = (1, s[0].toNat)) := hE
          have q92 : ((s[0].toNat : Int) == 92) = false := beq_eq_false_iff_ne.2 (by omega)
          clear hE h92
          go_enter Tryz.func62, Tryz.ntmps62
          go_wp2_with (first
            | (go_at_call 118; refine (isPlain_c s[0] _).mono ?_; rintro e w' ⟨rfl, rfl⟩; rw [hP.out]))
          go_region
          all_goals go_wp2
          all_goals go_ret2
          all_goals exact ⟨by rw [hE'.out]; rfl, by repeat (first | exact Below.refl _ _ | apply Below.drew)⟩

set_option maxHeartbeats 8000000 in
set_option maxRecDepth 100000 in
theorem noCharacter_c (s : ByteArray) (hs : s.size ≤ 70000) (w : World) :
    Calls Tryz.prog 120 #[.string s] w fun e w' => e = .returned (.int .i64 (M.noChar s.data.toList : Int)) ∧ w' = w := by
  have hlen : s.data.toList.length = s.size := (Lib.size_eq s).symm
  cases hp : [92].isPrefixOf s.data.toList with
  | false =>
    have hP : Hid (Lib.hasPrefix s.data.toList (ByteArray.mk #[92]).data.toList = false) := hp
    have hN : Hid (M.noChar s.data.toList = 0) := by
      show _ = _
      cases hl : s.data.toList with
      | nil => rfl
      | cons b l =>
        rw [hl, M.pref1] at hp
        rw [M.noChar_cons, if_neg]
        intro h
        rw [(b_eq 92).2 h] at hp; simp at hp
    clear hp
    go_enter Tryz.func120, Tryz.ntmps120
    go_wp2_with (go_at_call 115; refine (Tryz.strings_CutPrefix _ _ _).mono ?_; rintro e w' ⟨rfl, rfl⟩; rw [hP.out])
    go_ret
    exact ⟨by rw [hN.out]; rfl, rfl⟩
  | true =>
    have hP : Hid (Lib.hasPrefix s.data.toList (ByteArray.mk #[92]).data.toList = true) := hp
    have htp : Lib.trimPrefix s.data.toList (ByteArray.mk #[92]).data.toList = s.data.toList.drop 1 := drop_of_pref [92] _ hp
    obtain ⟨t, ht⟩ : ∃ t : ByteArray, (⟨(Lib.trimPrefix s.data.toList (ByteArray.mk #[92]).data.toList).toArray⟩ : ByteArray) = t := ⟨_, rfl⟩
    have htl : t.data.toList = s.data.toList.drop 1 := by rw [← ht, mk_list, htp]
    have hT : Hid ((⟨(Lib.trimPrefix s.data.toList (ByteArray.mk #[92]).data.toList).toArray⟩ : ByteArray) = t) := ht
    have hts : t.size ≤ 70000 := by rw [Lib.size_eq, htl, List.length_drop]; omega
    clear ht htp
    have hN : M.noChar s.data.toList = (if [38].isPrefixOf t.data.toList then 2 else if M.cnt M.blankB t.data.toList = 0 ∨ [92].isPrefixOf (t.data.toList.drop (M.cnt M.blankB t.data.toList)) = false then 0 else M.cnt M.blankB t.data.toList + 2) := by
      rw [htl]
      cases hl : s.data.toList with
      | nil => rw [hl] at hp; simp at hp
      | cons b l =>
        rw [hl, M.pref1] at hp
        rw [M.noChar_cons, if_pos (show b.toNat = 92 from (b_eq 92).1 hp)]
        rfl
    clear hp htl
    cases h1 : [38].isPrefixOf t.data.toList with
    | true =>
      have hP1 : Hid (Lib.hasPrefix t.data.toList (ByteArray.mk #[38]).data.toList = true) := h1
      rw [h1, if_pos rfl] at hN
      have hN' : Hid (M.noChar s.data.toList = 2) := hN
      clear hN h1
      go_enter Tryz.func120, Tryz.ntmps120
      go_wp2_with (first
        | (go_at_call 115; refine (Tryz.strings_CutPrefix _ _ _).mono ?_; rintro e w' ⟨rfl, rfl⟩; rw [hP.out, hT.out])
        | (go_at_call 108; refine (Tryz.strings_HasPrefix _ _ _).mono ?_; rintro e w' ⟨rfl, rfl⟩; rw [hP1.out]))
      go_ret
      exact ⟨by rw [hN'.out]; rfl, rfl⟩
    | false =>
      have hP1 : Hid (Lib.hasPrefix t.data.toList (ByteArray.mk #[38]).data.toList = false) := h1
      rw [h1, if_neg (by simp)] at hN
      have hcle : M.cnt M.blankB t.data.toList ≤ t.size := by rw [Lib.size_eq]; exact M.cnt_le _ _
      obtain ⟨c, hc'⟩ : ∃ c, M.cnt M.blankB t.data.toList = c := ⟨_, rfl⟩
      rw [hc'] at hN hcle
      have hC : Hid (M.cnt M.blankB t.data.toList = c) := hc'
      have hci : (c : Int) ≤ t.size := by omega
      clear h1 hc'
      by_cases hc0 : c = 0
      · subst hc0
        rw [if_pos (Or.inl rfl)] at hN
        have hN' : Hid (M.noChar s.data.toList = 0) := hN
        clear hN
        go_enter Tryz.func120, Tryz.ntmps120
        go_wp2_with (first
          | (go_at_call 115; refine (Tryz.strings_CutPrefix _ _ _).mono ?_; rintro e w' ⟨rfl, rfl⟩; rw [hP.out, hT.out])
          | (go_at_call 103; refine (count_c _ _ isBlank_f t (by omega) _).mono ?_; rintro e w' ⟨rfl, rfl⟩; rw [hC.out])
          | (go_at_call 108; refine (Tryz.strings_HasPrefix _ _ _).mono ?_; rintro e w' ⟨rfl, rfl⟩; rw [hP1.out]))
        go_ret
        exact ⟨by rw [hN'.out]; rfl, rfl⟩
      · have hcz : ((c : Int) == 0) = false := beq_eq_false_iff_ne.2 (by omega)
        cases h2 : [92].isPrefixOf (t.data.toList.drop c) with
        | false =>
          have hP2 : Hid (Lib.hasPrefix (t.extract c t.size).data.toList (ByteArray.mk #[92]).data.toList = false) := by show _ = _; rw [hasP]; exact h2
          rw [if_pos (Or.inr h2)] at hN
          have hN' : Hid (M.noChar s.data.toList = 0) := hN
          clear hN h2
          go_enter Tryz.func120, Tryz.ntmps120
          go_wp2_with (first
            | (go_at_call 115; refine (Tryz.strings_CutPrefix _ _ _).mono ?_; rintro e w' ⟨rfl, rfl⟩; rw [hP.out, hT.out])
            | (go_at_call 103; refine (count_c _ _ isBlank_f t (by omega) _).mono ?_; rintro e w' ⟨rfl, rfl⟩; rw [hC.out])
            | (go_at_call 108; refine (Tryz.strings_HasPrefix _ _ _).mono ?_; rintro e w' ⟨rfl, rfl⟩; first | rw [hP1.out] | rw [hP2.out]))
          go_ret
          exact ⟨by rw [hN'.out]; rfl, rfl⟩
        | true =>
          have hP2 : Hid (Lib.hasPrefix (t.extract c t.size).data.toList (ByteArray.mk #[92]).data.toList = true) := by show _ = _; rw [hasP]; exact h2
          rw [if_neg (by intro h; rcases h with h | h; exact hc0 h; rw [h2] at h; simp at h)] at hN
          have hN' : Hid (M.noChar s.data.toList = c + 2) := hN
          clear hN h2
          go_enter Tryz.func120, Tryz.ntmps120
          go_wp2_with (first
            | (go_at_call 115; refine (Tryz.strings_CutPrefix _ _ _).mono ?_; rintro e w' ⟨rfl, rfl⟩; rw [hP.out, hT.out])
            | (go_at_call 103; refine (count_c _ _ isBlank_f t (by omega) _).mono ?_; rintro e w' ⟨rfl, rfl⟩; rw [hC.out])
            | (go_at_call 108; refine (Tryz.strings_HasPrefix _ _ _).mono ?_; rintro e w' ⟨rfl, rfl⟩; first | rw [hP1.out] | rw [hP2.out]))
          go_ret
          exact ⟨by rw [hN'.out]; exact ret_int (by omega), rfl⟩

set_option maxHeartbeats 8000000 in
set_option maxRecDepth 100000 in
theorem takeChar_f : TakeFn 58 M.takeChar := by
  refine ⟨fun s hs w hG' => ?_, enters_of Tryz.func58 (by kernel_rfl) rfl⟩
  have hG : Hid (GOK w) := hG'
  clear hG'
  have hlen : s.data.toList.length = s.size := (Lib.size_eq s).symm
  cases hp : [39].isPrefixOf s.data.toList with
  | false =>
    have hP : Hid (Lib.hasPrefix s.data.toList (ByteArray.mk #[39]).data.toList = false) := hp
    have hN : Hid (M.takeChar s.data.toList = 0) := by show _ = _; unfold M.takeChar; rw [hp]; rfl
    clear hp
    go_enter Tryz.func58, Tryz.ntmps58
    go_wp2_with (go_at_call 108; refine (Tryz.strings_HasPrefix _ _ _).mono ?_; rintro e w' ⟨rfl, rfl⟩; rw [hP.out])
    go_ret
    exact ⟨by rw [hN.out]; rfl, Below.refl _ _⟩
  | true =>
    have hP : Hid (Lib.hasPrefix s.data.toList (ByteArray.mk #[39]).data.toList = true) := hp
    have hlt : 0 < s.size := by
      rcases Nat.eq_zero_or_pos s.size with h | h
      · obtain rfl := empty_of h
        simp at hp
      · exact h
    have h1 : (1 : Int) ≤ s.size := by omega
    have hN : M.takeChar s.data.toList = (if (M.character 39 (s.extract 1 s.size).data.toList).1 = 0 ∨ [39].isPrefixOf (s.data.toList.drop (1 + (M.character 39 (s.extract 1 s.size).data.toList).1)) = false then 0 else (M.character 39 (s.extract 1 s.size).data.toList).1 + 2) := by
      unfold M.takeChar; rw [hp, ext_end]; rfl
    clear hp
    have hts : (s.extract 1 s.size).size ≤ 70000 := by rw [size_drop]; omega
    have hle := M.character_le 39 (s.extract 1 s.size).data.toList
    rw [← Lib.size_eq, size_drop] at hle
    have hD := character_c (s.extract 1 s.size) 39 hts
    obtain ⟨⟨n, v⟩, hd⟩ : ∃ r, M.character 39 (s.extract 1 s.size).data.toList = r := ⟨_, rfl⟩
    rw [hd] at hD hN hle
    have hD' : Hid _ := hD
    clear hD hd
    simp only at hle hN
    by_cases hn : n = 0
    · subst hn
      rw [if_pos (Or.inl rfl)] at hN
      have hN' : Hid (M.takeChar s.data.toList = 0) := hN
      clear hN
      go_enter Tryz.func58, Tryz.ntmps58
      go_wp2_with (first
        | (go_at_call 108; refine (Tryz.strings_HasPrefix _ _ _).mono ?_; rintro e w' ⟨rfl, rfl⟩; rw [hP.out])
        | (go_at_call 62; refine (hD'.out _ hG.out).mono ?_; rintro e w2 ⟨rfl, hb⟩))
      go_ret
      exact ⟨by rw [hN'.out]; rfl, hb⟩
    · have hnz : ((n : Int) == 0) = false := beq_eq_false_iff_ne.2 (by omega)
      have hk : (1 : Int) + n ≤ s.size := by omega
      have hk' : ((1 + n : Nat) : Int).toNat = 1 + n := by omega
      have htn : ((1 : Int) + (n : Int)).toNat = 1 + n := by omega
      cases h2 : [39].isPrefixOf (s.data.toList.drop (1 + n)) with
      | false =>
        rw [if_pos (Or.inr h2)] at hN
        have hN' : Hid (M.takeChar s.data.toList = 0) := hN
        have hP2 : Hid (Lib.hasPrefix (s.extract (1 + n) s.size).data.toList (ByteArray.mk #[39]).data.toList = false) := by show _ = _; rw [hasP]; exact h2
        clear hN h2
        go_enter Tryz.func58, Tryz.ntmps58
        go_wp2_with (first
          | (go_at_call 108; refine (Tryz.strings_HasPrefix _ _ _).mono ?_; rintro e w' ⟨rfl, rfl⟩; first | rw [hP.out] | rw [htn, hP2.out] | rw [hP2.out])
          | (go_at_call 62; refine (hD'.out _ hG.out).mono ?_; rintro e w2 ⟨rfl, hb⟩))
        go_ret
        exact ⟨by rw [hN'.out]; rfl, hb⟩
      | true =>
        rw [if_neg (by intro h; rcases h with h | h; exact hn h; rw [h2] at h; simp at h)] at hN
        have hN' : Hid (M.takeChar s.data.toList = n + 2) := hN
        have hP2 : Hid (Lib.hasPrefix (s.extract (1 + n) s.size).data.toList (ByteArray.mk #[39]).data.toList = true) := by show _ = _; rw [hasP]; exact h2
        clear hN h2
        go_enter Tryz.func58, Tryz.ntmps58
        go_wp2_with (first
          | (go_at_call 108; refine (Tryz.strings_HasPrefix _ _ _).mono ?_; rintro e w' ⟨rfl, rfl⟩; first | rw [hP.out] | rw [htn, hP2.out] | rw [hP2.out])
          | (go_at_call 62; refine (hD'.out _ hG.out).mono ?_; rintro e w2 ⟨rfl, hb⟩))
        go_ret
        exact ⟨by rw [hN'.out]; exact ret_int (by omega), hb⟩

end Go.Proofs.YtndpebkiiemfpaaGreatDoor
