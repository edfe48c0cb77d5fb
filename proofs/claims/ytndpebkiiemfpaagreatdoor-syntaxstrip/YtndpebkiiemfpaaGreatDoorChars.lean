/-
  Numbers and characters of package lex, by contracts.
-/
import Derived.Test.YtndpebkiiemfpaaGreatDoorDigits
namespace Go.Proofs.YtndpebkiiemfpaaGreatDoor
open Go.RowKit Go.Shelf
set_option linter.unusedVariables false

theorem drop_of_pref (p l : List UInt8) (h : p.isPrefixOf l = true) : Lib.trimPrefix l p = l.drop p.length := by
  unfold Lib.trimPrefix Lib.hasPrefix; rw [h]; rfl
theorem mk_list (l : List UInt8) : (⟨l.toArray⟩ : ByteArray).data.toList = l := rfl
theorem mk_sz (l : List UInt8) : (⟨l.toArray⟩ : ByteArray).size = l.length := by rw [Lib.size_eq]

set_option maxHeartbeats 4000000 in
set_option maxRecDepth 100000 in
theorem number_c (s : ByteArray) (hs : s.size ≤ 70000) (w : World) (hG' : GOK w) :
    Calls Tryz.prog 61 #[.string s] w fun e w' => e = .returned (.tuple #[.int .i64 ((M.number s.data.toList).1 : Int), .int .i64 ((M.number s.data.toList).2 : Int)]) ∧ Below w.heap.size w w' := by
  have hG : Hid (GOK w) := hG'
  clear hG'
  have hlen : s.data.toList.length = s.size := (Lib.size_eq s).symm
  cases hp : [48, 120].isPrefixOf s.data.toList with
  | false =>
    have hP : Hid (Lib.hasPrefix s.data.toList (ByteArray.mk #[48, 120]).data.toList = false) := hp
    have hN : Hid (M.number s.data.toList = M.digs 10 63 s.data.toList) := by
      show _ = _
      unfold M.number M.isHexed; rw [hp]; rfl
    have hv := M.digs_val 10 63 s.data.toList
    have hD := digits_10_63 s hs
    obtain ⟨⟨n, v⟩, hd⟩ : ∃ r, M.digs 10 63 s.data.toList = r := ⟨_, rfl⟩
    rw [hd] at hD hN hv
    have hD' : Hid _ := hD
    clear hD hp hd
    simp only at hv
    go_enter Tryz.func61, Tryz.ntmps61
    go_wp2_with (first
      | (go_at_call 115; refine (Tryz.strings_CutPrefix _ _ _).mono ?_; rintro e w' ⟨rfl, rfl⟩; rw [hP.out])
      | (go_at_call 117; refine (hD'.out _ hG.out).mono ?_; rintro e w2 ⟨rfl, hb⟩))
    go_ret2
    exact ⟨by rw [hN.out]; rfl, hb⟩
  | true =>
    have hP : Hid (Lib.hasPrefix s.data.toList (ByteArray.mk #[48, 120]).data.toList = true) := hp
    have htp : Lib.trimPrefix s.data.toList (ByteArray.mk #[48, 120]).data.toList = s.data.toList.drop 2 := drop_of_pref [48, 120] _ hp
    obtain ⟨t, ht⟩ : ∃ t : ByteArray, (⟨(Lib.trimPrefix s.data.toList (ByteArray.mk #[48, 120]).data.toList).toArray⟩ : ByteArray) = t := ⟨_, rfl⟩
    have htl : t.data.toList = s.data.toList.drop 2 := by rw [← ht, mk_list, htp]
    have hT : Hid ((⟨(Lib.trimPrefix s.data.toList (ByteArray.mk #[48, 120]).data.toList).toArray⟩ : ByteArray) = t) := ht
    have hts : t.size ≤ 70000 := by rw [Lib.size_eq, htl, List.length_drop]; omega
    clear ht htp
    by_cases hc0 : M.cnt M.hexB t.data.toList = 0
    · have hC : Hid (M.cnt M.hexB t.data.toList = 0) := hc0
      have hN : Hid (M.number s.data.toList = M.digs 10 63 s.data.toList) := by
        show _ = _
        unfold M.number M.isHexed; rw [hp, ← htl, hc0]; rfl
      have hv := M.digs_val 10 63 s.data.toList
      have hD := digits_10_63 s hs
      obtain ⟨⟨n, v⟩, hd⟩ : ∃ r, M.digs 10 63 s.data.toList = r := ⟨_, rfl⟩
      rw [hd] at hD hN hv
      have hD' : Hid _ := hD
      clear hD hp hd hc0 htl
      simp only at hv
      go_enter Tryz.func61, Tryz.ntmps61
      go_wp2_with (first
        | (go_at_call 115; refine (Tryz.strings_CutPrefix _ _ _).mono ?_; rintro e w' ⟨rfl, rfl⟩; rw [hP.out, hT.out])
        | (go_at_call 103; refine (count_c _ _ isHex_f t (by omega) _).mono ?_; rintro e w' ⟨rfl, rfl⟩; rw [hC.out])
        | (go_at_call 117; refine (hD'.out _ hG.out).mono ?_; rintro e w2 ⟨rfl, hb⟩))
      go_ret2
      exact ⟨by rw [hN.out]; rfl, hb⟩
    · have hN : Hid (M.number s.data.toList = M.up 2 (M.digs 16 63 t.data.toList)) := by
        show _ = _
        unfold M.number M.isHexed; rw [hp, ← htl, if_pos (by simp [hc0])]
      have hv := M.digs_val 16 63 t.data.toList
      have hle := M.digs_le 16 63 t.data.toList
      have hD := digits_16_63 t hts
      obtain ⟨⟨n, v⟩, hd⟩ : ∃ r, M.digs 16 63 t.data.toList = r := ⟨_, rfl⟩
      rw [hd] at hD hN hv hle
      rw [← Lib.size_eq] at hle
      have hD' : Hid _ := hD
      obtain ⟨c, hc'⟩ : ∃ c, M.cnt M.hexB t.data.toList = c := ⟨_, rfl⟩
      rw [hc'] at hc0
      have hC : Hid (M.cnt M.hexB t.data.toList = c) := hc'
      have hcz : ((c : Int) == 0) = false := beq_eq_false_iff_ne.2 (by omega)
      clear hD hp hd htl hc'
      simp only at hv hle
      by_cases hn : n = 0
      · subst hn
        have hN2 : Hid (M.number s.data.toList = (0, 0)) := by show _ = _; rw [hN.out]; rfl
        clear hN
        go_enter Tryz.func61, Tryz.ntmps61
        go_wp2_with (first
          | (go_at_call 115; refine (Tryz.strings_CutPrefix _ _ _).mono ?_; rintro e w' ⟨rfl, rfl⟩; rw [hP.out, hT.out])
          | (go_at_call 103; refine (count_c _ _ isHex_f t (by omega) _).mono ?_; rintro e w' ⟨rfl, rfl⟩; rw [hC.out])
          | (go_at_call 117; refine (hD'.out _ hG.out).mono ?_; rintro e w2 ⟨rfl, hb⟩))
        go_ret2
        exact ⟨by rw [hN2.out]; rfl, hb⟩
      · have hN2 : Hid (M.number s.data.toList = (n + 2, v)) := by show _ = _; rw [hN.out]; unfold M.up; rw [if_neg hn]
        have hnz : ((n : Int) == 0) = false := beq_eq_false_iff_ne.2 (by omega)
        clear hN
        go_enter Tryz.func61, Tryz.ntmps61
        go_wp2_with (first
          | (go_at_call 115; refine (Tryz.strings_CutPrefix _ _ _).mono ?_; rintro e w' ⟨rfl, rfl⟩; rw [hP.out, hT.out])
          | (go_at_call 103; refine (count_c _ _ isHex_f t (by omega) _).mono ?_; rintro e w' ⟨rfl, rfl⟩; rw [hC.out])
          | (go_at_call 117; refine (hD'.out _ hG.out).mono ?_; rintro e w2 ⟨rfl, hb⟩))
        go_ret2
        exact ⟨by rw [hN2.out]; rfl, hb⟩

theorem takeInt_f : TakeFn 57 (fun l => (M.number l).1) := by
  refine ⟨fun s hs w hG' => ?_, enters_of Tryz.func57 (by kernel_rfl) rfl⟩
  have hG : Hid (GOK w) := hG'
  clear hG'
  go_enter Tryz.func57, Tryz.ntmps57
  go_wp2_with (go_at_call 61; refine (number_c s hs _ hG.out).mono ?_; rintro e w' ⟨rfl, hb⟩)
  go_ret
  exact ⟨rfl, hb⟩


theorem up_cases (k : Nat) (n v : Nat) : M.up k (n, v) = if n = 0 then (0, 0) else (n + k, v) := rfl

set_option maxHeartbeats 8000000 in
set_option maxRecDepth 100000 in
theorem escape_c (s : ByteArray) (hs : s.size ≤ 70000) (w : World) (hG' : GOK w) :
    Calls Tryz.prog 119 #[.string s] w fun e w' => e = .returned (.tuple #[.int .i64 ((M.escape s.data.toList).1 : Int), .int .u8 ((M.escape s.data.toList).2 : Int)]) ∧ Below w.heap.size w w' := by
  have hG : Hid (GOK w) := hG'
  have hdep : Tryz.prog.follows Departure.mixedOrders = true := by kernel_rfl
  clear hG'
  by_cases h0 : s.size = 0
  · obtain rfl := empty_of h0
    go_enter Tryz.func119, Tryz.ntmps119
    go_wp2
    go_ret2
    exact ⟨rfl, Below.refl _ _⟩
  · have hlt : 0 < s.size := by omega
    have h1 : (1 : Int) ≤ s.size := by omega
    have hne := ne_empty hlt
    have hcons := cons_of hlt
    have hE := M.escape_cons s[0] (s.data.toList.drop 1)
    rw [← hcons] at hE
    clear hcons
    have hb256 : s[0].toNat < 256 := s[0].toNat_lt
    by_cases h110 : s[0].toNat = 110
    · rw [if_pos h110] at hE
      have hE' : Hid (M.escape s.data.toList = (1, 10)) := hE
      clear hE
      have hq : ((s[0].toNat : Int) == 110) = true := beq_iff_eq.2 (by omega)
      clear h110
      go_enter Tryz.func119, Tryz.ntmps119
      go_wp2
      go_ret2
      exact ⟨by rw [hE'.out]; rfl, Below.refl _ _⟩
    · rw [if_neg h110] at hE
      have q110 : ((s[0].toNat : Int) == 110) = false := beq_eq_false_iff_ne.2 (by omega)
      clear h110
      by_cases h116 : s[0].toNat = 116
      · rw [if_pos h116] at hE
        have hE' : Hid (M.escape s.data.toList = (1, 9)) := hE
        clear hE
        have hq : ((s[0].toNat : Int) == 116) = true := beq_iff_eq.2 (by omega)
        clear h116
        go_enter Tryz.func119, Tryz.ntmps119
        go_wp2
        go_ret2
        exact ⟨by rw [hE'.out]; rfl, Below.refl _ _⟩
      · rw [if_neg h116] at hE
        have q116 : ((s[0].toNat : Int) == 116) = false := beq_eq_false_iff_ne.2 (by omega)
        clear h116
        by_cases h3 : s[0].toNat = 92 ∨ s[0].toNat = 39 ∨ s[0].toNat = 34
        · rw [if_pos h3] at hE
          have hE' : Hid (M.escape s.data.toList = (1, s[0].toNat)) := hE
          clear hE
          go_enter Tryz.func119, Tryz.ntmps119
          rcases h3 with h3 | h3 | h3
          · have hq : ((s[0].toNat : Int) == 92) = true := beq_iff_eq.2 (by omega)
            clear h3
            go_wp2
            go_region
            all_goals go_wp2
            all_goals go_ret2
            all_goals exact ⟨by rw [hE'.out]; rfl, by repeat (first | exact Below.refl _ _ | apply Below.drew)⟩
          · have q1 : ((s[0].toNat : Int) == 92) = false := beq_eq_false_iff_ne.2 (by omega)
            have hq : ((s[0].toNat : Int) == 39) = true := beq_iff_eq.2 (by omega)
            clear h3
            go_wp2
            go_region
            all_goals go_wp2
            all_goals go_ret2
            all_goals exact ⟨by rw [hE'.out]; rfl, by repeat (first | exact Below.refl _ _ | apply Below.drew)⟩
          · have q1 : ((s[0].toNat : Int) == 92) = false := beq_eq_false_iff_ne.2 (by omega)
            have q2 : ((s[0].toNat : Int) == 39) = false := beq_eq_false_iff_ne.2 (by omega)
            have hq : ((s[0].toNat : Int) == 34) = true := beq_iff_eq.2 (by omega)
            clear h3
            go_wp2
            go_region
            all_goals go_wp2
            all_goals go_ret2
            all_goals exact ⟨by rw [hE'.out]; rfl, by repeat (first | exact Below.refl _ _ | apply Below.drew)⟩
        · rw [if_neg h3] at hE
          have q92 : ((s[0].toNat : Int) == 92) = false := beq_eq_false_iff_ne.2 (by omega)
          have q39 : ((s[0].toNat : Int) == 39) = false := beq_eq_false_iff_ne.2 (by omega)
          have q34 : ((s[0].toNat : Int) == 34) = false := beq_eq_false_iff_ne.2 (by omega)
          clear h3
          by_cases h120 : s[0].toNat = 120
          · rw [if_pos h120, ← ext_end] at hE
            have hq : ((s[0].toNat : Int) == 120) = true := beq_iff_eq.2 (by omega)
            clear h120
            have hts : (s.extract 1 s.size).size ≤ 70000 := by rw [size_drop]; omega
            have hv := M.digs_val 16 8 (s.extract 1 s.size).data.toList
            have hle := M.digs_le 16 8 (s.extract 1 s.size).data.toList
            have hD := digits_16_8 (s.extract 1 s.size) hts
            obtain ⟨⟨n, v⟩, hd⟩ : ∃ r, M.digs 16 8 (s.extract 1 s.size).data.toList = r := ⟨_, rfl⟩
            rw [hd] at hD hE hv hle
            rw [← Lib.size_eq] at hle
            have hD' : Hid _ := hD
            clear hD hd
            simp only at hv hle
            by_cases hn : n = 0
            · subst hn
              have hE' : Hid (M.escape s.data.toList = (0, 0)) := hE
              clear hE
              go_enter Tryz.func119, Tryz.ntmps119
              go_wp2_with (go_at_call 117; refine (hD'.out _ hG.out).mono ?_; rintro e w2 ⟨rfl, hb⟩)
              go_ret2
              exact ⟨by rw [hE'.out]; rfl, hb⟩
            · have hE' : Hid (M.escape s.data.toList = (n + 1, v)) := by show _ = _; rw [hE, up_cases, if_neg hn]
              have hnz : ((n : Int) == 0) = false := beq_eq_false_iff_ne.2 (by omega)
              clear hE
              go_enter Tryz.func119, Tryz.ntmps119
              go_wp2_with (go_at_call 117; refine (hD'.out _ hG.out).mono ?_; rintro e w2 ⟨rfl, hb⟩)
              go_ret2
              exact ⟨by rw [hE'.out]; rfl, hb⟩
          · rw [if_neg h120] at hE
            have q120 : ((s[0].toNat : Int) == 120) = false := beq_eq_false_iff_ne.2 (by omega)
            clear h120
            have hv := M.digs_val 10 8 s.data.toList
            have hD := digits_10_8 s hs
            obtain ⟨⟨n, v⟩, hd⟩ : ∃ r, M.digs 10 8 s.data.toList = r := ⟨_, rfl⟩
            rw [hd] at hD hE hv
            have hD' : Hid _ := hD
            have hE' : Hid (M.escape s.data.toList = (n, v)) := hE
            clear hD hd hE
            simp only at hv
            go_enter Tryz.func119, Tryz.ntmps119
            go_wp2_with (go_at_call 117; refine (hD'.out _ hG.out).mono ?_; rintro e w2 ⟨rfl, hb⟩)
            go_ret2
            exact ⟨by rw [hE'.out]; rfl, hb⟩

end Go.Proofs.YtndpebkiiemfpaaGreatDoor
