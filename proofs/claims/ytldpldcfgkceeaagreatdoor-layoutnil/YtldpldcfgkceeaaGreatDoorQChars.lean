/-
  Numbers and characters of package lex, by contracts.
  Characters of package lex, by contracts.
  Strings of package lex, by a contract.
-/
import Derived.Test.YtldpldcfgkceeaaGreatDoorQDigits
import Derived.Maps.AppendAt
namespace Go.Proofs.YtldpldcfgkceeaaGreatDoor
open Go.RowKit Go.Shelf
set_option linter.unusedVariables false

theorem drop_of_pref (p l : List UInt8) (h : p.isPrefixOf l = true) : Lib.trimPrefix l p = l.drop p.length := by
  unfold Lib.trimPrefix Lib.hasPrefix; rw [h]; rfl
theorem mk_list (l : List UInt8) : (⟨l.toArray⟩ : ByteArray).data.toList = l := rfl
theorem mk_sz (l : List UInt8) : (⟨l.toArray⟩ : ByteArray).size = l.length := by rw [Lib.size_eq]

set_option maxHeartbeats 4000000 in
set_option maxRecDepth 100000 in
theorem number_c (s : ByteArray) (hs : s.size ≤ 70000) (w : World) (hG' : GOK w) :
    Calls Tryz.prog 68 #[.string s] w fun e w' => e = .returned (.tuple #[.int .i64 ((M.number s.data.toList).1 : Int), .int .i64 ((M.number s.data.toList).2 : Int)]) ∧ Below w.heap.size w w' := by
  have hG : Hid (GOK w) := hG'
  clear hG'
  have hlen : s.data.toList.length = s.size := (Lib.size_eq s).symm
  cases hp : [48, 120].isPrefixOf s.data.toList with
  | false =>
    have hP : Hid (Lib.hasPrefix s.data.toList (ByteArray.mk #[48, 120]).data.toList = false) := hp
    have hN : Hid (M.number s.data.toList = M.digs 10 63 s.data.toList) := by
      show _ = _
      unfold M.number M.isHexed; rw [hp]; rfl
    have hv := M.digs_val 10 63 s.data.toList
    have hD := digits_10_63 s hs
    obtain ⟨⟨n, v⟩, hd⟩ : ∃ r, M.digs 10 63 s.data.toList = r := ⟨_, rfl⟩
    rw [hd] at hD hN hv
    have hD' : Hid _ := hD
    clear hD hp hd
    simp only at hv
    go_enter Tryz.func68, Tryz.ntmps68
    go_wp2_with (first
      | (go_at_call 89; refine (Tryz.strings_CutPrefix _ _ _).mono ?_; rintro e w' ⟨rfl, rfl⟩; rw [hP.out])
      | (go_at_call 91; refine (hD'.out _ hG.out).mono ?_; rintro e w2 ⟨rfl, hb⟩))
    go_ret2
    exact ⟨by rw [hN.out]; rfl, hb⟩
  | true =>
    have hP : Hid (Lib.hasPrefix s.data.toList (ByteArray.mk #[48, 120]).data.toList = true) := hp
    have htp : Lib.trimPrefix s.data.toList (ByteArray.mk #[48, 120]).data.toList = s.data.toList.drop 2 := drop_of_pref [48, 120] _ hp
    obtain ⟨t, ht⟩ : ∃ t : ByteArray, (⟨(Lib.trimPrefix s.data.toList (ByteArray.mk #[48, 120]).data.toList).toArray⟩ : ByteArray) = t := ⟨_, rfl⟩
    have htl : t.data.toList = s.data.toList.drop 2 := by rw [← ht, mk_list, htp]
    have hT : Hid ((⟨(Lib.trimPrefix s.data.toList (ByteArray.mk #[48, 120]).data.toList).toArray⟩ : ByteArray) = t) := ht
    have hts : t.size ≤ 70000 := by rw [Lib.size_eq, htl, List.length_drop]; omega
    clear ht htp
    by_cases hc0 : M.cnt M.hexB t.data.toList = 0
    · have hC : Hid (M.cnt M.hexB t.data.toList = 0) := hc0
      have hN : Hid (M.number s.data.toList = M.digs 10 63 s.data.toList) := by
        show _ = _
        unfold M.number M.isHexed; rw [hp, ← htl, hc0]; rfl
      have hv := M.digs_val 10 63 s.data.toList
      have hD := digits_10_63 s hs
      obtain ⟨⟨n, v⟩, hd⟩ : ∃ r, M.digs 10 63 s.data.toList = r := ⟨_, rfl⟩
      rw [hd] at hD hN hv
      have hD' : Hid _ := hD
      clear hD hp hd hc0 htl
      simp only at hv
      go_enter Tryz.func68, Tryz.ntmps68
      go_wp2_with (first
        | (go_at_call 89; refine (Tryz.strings_CutPrefix _ _ _).mono ?_; rintro e w' ⟨rfl, rfl⟩; rw [hP.out, hT.out])
        | (go_at_call 77; refine (count_c _ _ isHex_f t (by omega) _).mono ?_; rintro e w' ⟨rfl, rfl⟩; rw [hC.out])
        | (go_at_call 91; refine (hD'.out _ hG.out).mono ?_; rintro e w2 ⟨rfl, hb⟩))
      go_ret2
      exact ⟨by rw [hN.out]; rfl, hb⟩
    · have hN : Hid (M.number s.data.toList = M.up 2 (M.digs 16 63 t.data.toList)) := by
        show _ = _
        unfold M.number M.isHexed; rw [hp, ← htl, if_pos (by simp [hc0])]
      have hv := M.digs_val 16 63 t.data.toList
      have hle := M.digs_le 16 63 t.data.toList
      have hD := digits_16_63 t hts
      obtain ⟨⟨n, v⟩, hd⟩ : ∃ r, M.digs 16 63 t.data.toList = r := ⟨_, rfl⟩
      rw [hd] at hD hN hv hle
      rw [← Lib.size_eq] at hle
      have hD' : Hid _ := hD
      obtain ⟨c, hc'⟩ : ∃ c, M.cnt M.hexB t.data.toList = c := ⟨_, rfl⟩
      rw [hc'] at hc0
      have hC : Hid (M.cnt M.hexB t.data.toList = c) := hc'
      have hcz : ((c : Int) == 0) = false := beq_eq_false_iff_ne.2 (by omega)
      clear hD hp hd htl hc'
      simp only at hv hle
      by_cases hn : n = 0
      · subst hn
        have hN2 : Hid (M.number s.data.toList = (0, 0)) := by show _ = _; rw [hN.out]; rfl
        clear hN
        go_enter Tryz.func68, Tryz.ntmps68
        go_wp2_with (first
          | (go_at_call 89; refine (Tryz.strings_CutPrefix _ _ _).mono ?_; rintro e w' ⟨rfl, rfl⟩; rw [hP.out, hT.out])
          | (go_at_call 77; refine (count_c _ _ isHex_f t (by omega) _).mono ?_; rintro e w' ⟨rfl, rfl⟩; rw [hC.out])
          | (go_at_call 91; refine (hD'.out _ hG.out).mono ?_; rintro e w2 ⟨rfl, hb⟩))
        go_ret2
        exact ⟨by rw [hN2.out]; rfl, hb⟩
      · have hN2 : Hid (M.number s.data.toList = (n + 2, v)) := by show _ = _; rw [hN.out]; unfold M.up; rw [if_neg hn]
        have hnz : ((n : Int) == 0) = false := beq_eq_false_iff_ne.2 (by omega)
        clear hN
        go_enter Tryz.func68, Tryz.ntmps68
        go_wp2_with (first
          | (go_at_call 89; refine (Tryz.strings_CutPrefix _ _ _).mono ?_; rintro e w' ⟨rfl, rfl⟩; rw [hP.out, hT.out])
          | (go_at_call 77; refine (count_c _ _ isHex_f t (by omega) _).mono ?_; rintro e w' ⟨rfl, rfl⟩; rw [hC.out])
          | (go_at_call 91; refine (hD'.out _ hG.out).mono ?_; rintro e w2 ⟨rfl, hb⟩))
        go_ret2
        exact ⟨by rw [hN2.out]; rfl, hb⟩

theorem takeInt_f : TakeFn 64 (fun l => (M.number l).1) := by
  refine ⟨fun s hs w hG' => ?_, enters_of Tryz.func64 (by kernel_rfl) rfl⟩
  have hG : Hid (GOK w) := hG'
  clear hG'
  go_enter Tryz.func64, Tryz.ntmps64
  go_wp2_with (go_at_call 68; refine (number_c s hs _ hG.out).mono ?_; rintro e w' ⟨rfl, hb⟩)
  go_ret
  exact ⟨rfl, hb⟩


theorem up_cases (k : Nat) (n v : Nat) : M.up k (n, v) = if n = 0 then (0, 0) else (n + k, v) := rfl

set_option maxHeartbeats 8000000 in
set_option maxRecDepth 100000 in
theorem escape_c (s : ByteArray) (hs : s.size ≤ 70000) (w : World) (hG' : GOK w) :
    Calls Tryz.prog 93 #[.string s] w fun e w' => e = .returned (.tuple #[.int .i64 ((M.escape s.data.toList).1 : Int), .int .u8 ((M.escape s.data.toList).2 : Int)]) ∧ Below w.heap.size w w' := by
  have hG : Hid (GOK w) := hG'
  have hdep : Tryz.prog.follows Departure.mixedOrders = true := by kernel_rfl
  clear hG'
  by_cases h0 : s.size = 0
  · obtain rfl := empty_of h0
    go_enter Tryz.func93, Tryz.ntmps93
    go_wp2
    go_ret2
    exact ⟨rfl, Below.refl _ _⟩
  · have hlt : 0 < s.size := by omega
    have h1 : (1 : Int) ≤ s.size := by omega
    have hne := ne_empty hlt
    have hcons := cons_of hlt
    have hE := M.escape_cons s[0] (s.data.toList.drop 1)
    rw [← hcons] at hE
    clear hcons
    have hb256 : s[0].toNat < 256 := s[0].toNat_lt
    by_cases h110 : s[0].toNat = 110
    · rw [if_pos h110] at hE
      have hE' : Hid (M.escape s.data.toList = (1, 10)) := hE
      clear hE
      have hq : ((s[0].toNat : Int) == 110) = true := beq_iff_eq.2 (by omega)
      clear h110
      go_enter Tryz.func93, Tryz.ntmps93
      go_wp2
      go_ret2
      exact ⟨by rw [hE'.out]; rfl, Below.refl _ _⟩
    · rw [if_neg h110] at hE
      have q110 : ((s[0].toNat : Int) == 110) = false := beq_eq_false_iff_ne.2 (by omega)
      clear h110
      by_cases h116 : s[0].toNat = 116
      · rw [if_pos h116] at hE
        have hE' : Hid (M.escape s.data.toList = (1, 9)) := hE
        clear hE
        have hq : ((s[0].toNat : Int) == 116) = true := beq_iff_eq.2 (by omega)
        clear h116
        go_enter Tryz.func93, Tryz.ntmps93
        go_wp2
        go_ret2
        exact ⟨by rw [hE'.out]; rfl, Below.refl _ _⟩
      · rw [if_neg h116] at hE
        have q116 : ((s[0].toNat : Int) == 116) = false := beq_eq_false_iff_ne.2 (by omega)
        clear h116
        by_cases h3 : s[0].toNat = 92 ∨ s[0].toNat = 39 ∨ s[0].toNat = 34
        · rw [if_pos h3] at hE
          have hE' : Hid (M.escape s.data.toList = (1, s[0].toNat)) := hE
          clear hE
          go_enter Tryz.func93, Tryz.ntmps93
          rcases h3 with h3 | h3 | h3
          · have hq : ((s[0].toNat : Int) == 92) = true := beq_iff_eq.2 (by omega)
            clear h3
            go_wp2
            go_region
            all_goals go_wp2
            all_goals go_ret2
            all_goals exact ⟨by rw [hE'.out]; rfl, by repeat (first | exact Below.refl _ _ | apply Below.drew)⟩
          · have q1 : ((s[0].toNat : Int) == 92) = false := beq_eq_false_iff_ne.2 (by omega)
            have hq : ((s[0].toNat : Int) == 39) = true := beq_iff_eq.2 (by omega)
            clear h3
            go_wp2
            go_region
            all_goals go_wp2
            all_goals go_ret2
            all_goals exact ⟨by rw [hE'.out]; rfl, by repeat (first | exact Below.refl _ _ | apply Below.drew)⟩
          · have q1 : ((s[0].toNat : Int) == 92) = false := beq_eq_false_iff_ne.2 (by omega)
            have q2 : ((s[0].toNat : Int) == 39) = false := beq_eq_false_iff_ne.2 (by omega)
            have hq : ((s[0].toNat : Int) == 34) = true := beq_iff_eq.2 (by omega)
            clear h3
            go_wp2
            go_region
            all_goals go_wp2
            all_goals go_ret2
            all_goals exact ⟨by rw [hE'.out]; rfl, by repeat (first | exact Below.refl _ _ | apply Below.drew)⟩
        · rw [if_neg h3] at hE
          have q92 : ((s[0].toNat : Int) == 92) = false := beq_eq_false_iff_ne.2 (by omega)
          have q39 : ((s[0].toNat : Int) == 39) = false := beq_eq_false_iff_ne.2 (by omega)
          have q34 : ((s[0].toNat : Int) == 34) = false := beq_eq_false_iff_ne.2 (by omega)
          clear h3
          by_cases h120 : s[0].toNat = 120
          · rw [if_pos h120, ← ext_end] at hE
            have hq : ((s[0].toNat : Int) == 120) = true := beq_iff_eq.2 (by omega)
            clear h120
            have hts : (s.extract 1 s.size).size ≤ 70000 := by rw [size_drop]; omega
            have hv := M.digs_val 16 8 (s.extract 1 s.size).data.toList
            have hle := M.digs_le 16 8 (s.extract 1 s.size).data.toList
            have hD := digits_16_8 (s.extract 1 s.size) hts
            obtain ⟨⟨n, v⟩, hd⟩ : ∃ r, M.digs 16 8 (s.extract 1 s.size).data.toList = r := ⟨_, rfl⟩
            rw [hd] at hD hE hv hle
            rw [← Lib.size_eq] at hle
            have hD' : Hid _ := hD
            clear hD hd
            simp only at hv hle
            by_cases hn : n = 0
            · subst hn
              have hE' : Hid (M.escape s.data.toList = (0, 0)) := hE
              clear hE
              go_enter Tryz.func93, Tryz.ntmps93
              go_wp2_with (go_at_call 91; refine (hD'.out _ hG.out).mono ?_; rintro e w2 ⟨rfl, hb⟩)
              go_ret2
              exact ⟨by rw [hE'.out]; rfl, hb⟩
            · have hE' : Hid (M.escape s.data.toList = (n + 1, v)) := by show _ = _; rw [hE, up_cases, if_neg hn]
              have hnz : ((n : Int) == 0) = false := beq_eq_false_iff_ne.2 (by omega)
              clear hE
              go_enter Tryz.func93, Tryz.ntmps93
              go_wp2_with (go_at_call 91; refine (hD'.out _ hG.out).mono ?_; rintro e w2 ⟨rfl, hb⟩)
              go_ret2
              exact ⟨by rw [hE'.out]; rfl, hb⟩
          · rw [if_neg h120] at hE
            have q120 : ((s[0].toNat : Int) == 120) = false := beq_eq_false_iff_ne.2 (by omega)
            clear h120
            have hv := M.digs_val 10 8 s.data.toList
            have hD := digits_10_8 s hs
            obtain ⟨⟨n, v⟩, hd⟩ : ∃ r, M.digs 10 8 s.data.toList = r := ⟨_, rfl⟩
            rw [hd] at hD hE hv
            have hD' : Hid _ := hD
            have hE' : Hid (M.escape s.data.toList = (n, v)) := hE
            clear hD hd hE
            simp only at hv
            go_enter Tryz.func93, Tryz.ntmps93
            go_wp2_with (go_at_call 91; refine (hD'.out _ hG.out).mono ?_; rintro e w2 ⟨rfl, hb⟩)
            go_ret2
            exact ⟨by rw [hE'.out]; rfl, hb⟩

end Go.Proofs.YtldpldcfgkceeaaGreatDoor

namespace Go.Proofs.YtldpldcfgkceeaaGreatDoor
open Go.RowKit Go.Shelf
set_option linter.unusedVariables false

theorem byte_eq {a b : UInt8} (h : a = b) : ((a.toNat : Int) == (b.toNat : Int)) = true := by rw [h]; simp
theorem byte_ne {a b : UInt8} (h : ¬ a = b) : ((a.toNat : Int) == (b.toNat : Int)) = false := by
  rw [beq_eq_false_iff_ne]
  intro h1
  exact h (UInt8.toNat_inj.1 (by omega))

set_option maxHeartbeats 8000000 in
set_option maxRecDepth 100000 in
theorem character_c (s : ByteArray) (q : UInt8) (hs : s.size ≤ 70000) (w : World) (hG' : GOK w) :
    Calls Tryz.prog 69 #[.string s, .int .u8 (q.toNat : Int)] w fun e w' => e = .returned (.tuple #[.int .i64 ((M.character q s.data.toList).1 : Int), .int .u8 ((M.character q s.data.toList).2 : Int)]) ∧ Below w.heap.size w w' := by
  have hG : Hid (GOK w) := hG'
  have hdep : Tryz.prog.follows Departure.mixedOrders = true := by kernel_rfl
  clear hG'
  have hq256 : q.toNat < 256 := q.toNat_lt
  by_cases h0 : s.size = 0
  · obtain rfl := empty_of h0
    go_enter Tryz.func69, Tryz.ntmps69
    go_wp2
    go_ret2
    exact ⟨rfl, Below.refl _ _⟩
  · have hlt : 0 < s.size := by omega
    have h1 : (1 : Int) ≤ s.size := by omega
    have hne := ne_empty hlt
    have hcons := cons_of hlt
    have hE := M.character_cons q s[0] (s.data.toList.drop 1)
    rw [← hcons] at hE
    clear hcons
    have hb256 : s[0].toNat < 256 := s[0].toNat_lt
    by_cases hb : s[0] = q
    · rw [if_pos (Or.inl hb)] at hE
      have hE' : Hid (M.character q s.data.toList = (0, 0)) := hE
      have hq := byte_eq hb
      clear hE hb
      go_enter Tryz.func69, Tryz.ntmps69
      go_wp2
      go_ret2
      exact ⟨by rw [hE'.out]; rfl, Below.refl _ _⟩
    · have hq := byte_ne hb
      cases hp : M.plainB s[0] with
      | false =>
        rw [if_pos (Or.inr hp)] at hE
        have hE' : Hid (M.character q s.data.toList = (0, 0)) := hE
        have hP : Hid (M.plainB s[0] = false) := hp
        clear hE hb hp
        go_enter Tryz.func69, Tryz.ntmps69
        go_wp2_with (go_at_call 92; refine (isPlain_c s[0] _).mono ?_; rintro e w' ⟨rfl, rfl⟩; rw [hP.out])
        go_ret2
        exact ⟨by rw [hE'.out]; rfl, Below.refl _ _⟩
      | true =>
        rw [if_neg (by intro h; rcases h with h | h; exact hb h; rw [hp] at h; simp at h)] at hE
        have hP : Hid (M.plainB s[0] = true) := hp
        clear hb hp
        by_cases h92 : s[0].toNat = 92
        · rw [if_pos h92, ← ext_end] at hE
          have q92 : ((s[0].toNat : Int) == 92) = true := beq_iff_eq.2 (by omega)
          clear h92
          have hts : (s.extract 1 s.size).size ≤ 70000 := by rw [size_drop]; omega
          have hle := M.escape_le (s.extract 1 s.size).data.toList
          have hD := escape_c (s.extract 1 s.size) hts
          obtain ⟨⟨n, v⟩, hd⟩ : ∃ r, M.escape (s.extract 1 s.size).data.toList = r := ⟨_, rfl⟩
          rw [hd] at hD hE hle
          rw [← Lib.size_eq] at hle
          have hD' : Hid _ := hD
          clear hD hd
          simp only at hle
          by_cases hn : n = 0
          · subst hn
            have hE' : Hid (M.character q s.data.toList = (0, 0)) := hE
            clear hE
            go_enter Tryz.func69, Tryz.ntmps69
            go_wp2_with (first
              | (go_at_call 92; refine (isPlain_c s[0] _).mono ?_; rintro e w' ⟨rfl, rfl⟩; rw [hP.out])
              | (go_at_call 93; refine (hD'.out _ hG.out).mono ?_; rintro e w2 ⟨rfl, hb⟩))
            go_ret2
            exact ⟨by rw [hE'.out]; rfl, hb⟩
          · have hE' : Hid (M.character q s.data.toList = (n + 1, v)) := by show _ = _; rw [hE, up_cases, if_neg hn]
            have hnz : ((n : Int) == 0) = false := beq_eq_false_iff_ne.2 (by omega)
            clear hE
            go_enter Tryz.func69, Tryz.ntmps69
            go_wp2_with (first
              | (go_at_call 92; refine (isPlain_c s[0] _).mono ?_; rintro e w' ⟨rfl, rfl⟩; rw [hP.out])
              | (go_at_call 93; refine (hD'.out _ hG.out).mono ?_; rintro e w2 ⟨rfl, hb⟩))
            go_ret2
            exact ⟨by rw [hE'.out]; rfl, hb⟩
        · rw [if_neg h92] at hE
          have hE' : Hid (M.character q s.data.toList = (1, s[0].toNat)) := hE
          have q92 : ((s[0].toNat : Int) == 92) = false := beq_eq_false_iff_ne.2 (by omega)
          clear hE h92
          go_enter Tryz.func69, Tryz.ntmps69
          go_wp2_with (first
            | (go_at_call 92; refine (isPlain_c s[0] _).mono ?_; rintro e w' ⟨rfl, rfl⟩; rw [hP.out]))
          go_region
          all_goals go_wp2
          all_goals go_ret2
          all_goals exact ⟨by rw [hE'.out]; rfl, by repeat (first | exact Below.refl _ _ | apply Below.drew)⟩

set_option maxHeartbeats 8000000 in
set_option maxRecDepth 100000 in
theorem noCharacter_c (s : ByteArray) (hs : s.size ≤ 70000) (w : World) :
    Calls Tryz.prog 94 #[.string s] w fun e w' => e = .returned (.int .i64 (M.noChar s.data.toList : Int)) ∧ w' = w := by
  have hlen : s.data.toList.length = s.size := (Lib.size_eq s).symm
  cases hp : [92].isPrefixOf s.data.toList with
  | false =>
    have hP : Hid (Lib.hasPrefix s.data.toList (ByteArray.mk #[92]).data.toList = false) := hp
    have hN : Hid (M.noChar s.data.toList = 0) := by
      show _ = _
      cases hl : s.data.toList with
      | nil => rfl
      | cons b l =>
        rw [hl, M.pref1] at hp
        rw [M.noChar_cons, if_neg]
        intro h
        rw [(b_eq 92).2 h] at hp; simp at hp
    clear hp
    go_enter Tryz.func94, Tryz.ntmps94
    go_wp2_with (go_at_call 89; refine (Tryz.strings_CutPrefix _ _ _).mono ?_; rintro e w' ⟨rfl, rfl⟩; rw [hP.out])
    go_ret
    exact ⟨by rw [hN.out]; rfl, rfl⟩
  | true =>
    have hP : Hid (Lib.hasPrefix s.data.toList (ByteArray.mk #[92]).data.toList = true) := hp
    have htp : Lib.trimPrefix s.data.toList (ByteArray.mk #[92]).data.toList = s.data.toList.drop 1 := drop_of_pref [92] _ hp
    obtain ⟨t, ht⟩ : ∃ t : ByteArray, (⟨(Lib.trimPrefix s.data.toList (ByteArray.mk #[92]).data.toList).toArray⟩ : ByteArray) = t := ⟨_, rfl⟩
    have htl : t.data.toList = s.data.toList.drop 1 := by rw [← ht, mk_list, htp]
    have hT : Hid ((⟨(Lib.trimPrefix s.data.toList (ByteArray.mk #[92]).data.toList).toArray⟩ : ByteArray) = t) := ht
    have hts : t.size ≤ 70000 := by rw [Lib.size_eq, htl, List.length_drop]; omega
    clear ht htp
    have hN : M.noChar s.data.toList = (if [38].isPrefixOf t.data.toList then 2 else if M.cnt M.blankB t.data.toList = 0 ∨ [92].isPrefixOf (t.data.toList.drop (M.cnt M.blankB t.data.toList)) = false then 0 else M.cnt M.blankB t.data.toList + 2) := by
      rw [htl]
      cases hl : s.data.toList with
      | nil => rw [hl] at hp; simp at hp
      | cons b l =>
        rw [hl, M.pref1] at hp
        rw [M.noChar_cons, if_pos (show b.toNat = 92 from (b_eq 92).1 hp)]
        rfl
    clear hp htl
    cases h1 : [38].isPrefixOf t.data.toList with
    | true =>
      have hP1 : Hid (Lib.hasPrefix t.data.toList (ByteArray.mk #[38]).data.toList = true) := h1
      rw [h1, if_pos rfl] at hN
      have hN' : Hid (M.noChar s.data.toList = 2) := hN
      clear hN h1
      go_enter Tryz.func94, Tryz.ntmps94
      go_wp2_with (first
        | (go_at_call 89; refine (Tryz.strings_CutPrefix _ _ _).mono ?_; rintro e w' ⟨rfl, rfl⟩; rw [hP.out, hT.out])
        | (go_at_call 82; refine (Tryz.strings_HasPrefix _ _ _).mono ?_; rintro e w' ⟨rfl, rfl⟩; rw [hP1.out]))
      go_ret
      exact ⟨by rw [hN'.out]; rfl, rfl⟩
    | false =>
      have hP1 : Hid (Lib.hasPrefix t.data.toList (ByteArray.mk #[38]).data.toList = false) := h1
      rw [h1, if_neg (by simp)] at hN
      have hcle : M.cnt M.blankB t.data.toList ≤ t.size := by rw [Lib.size_eq]; exact M.cnt_le _ _
      obtain ⟨c, hc'⟩ : ∃ c, M.cnt M.blankB t.data.toList = c := ⟨_, rfl⟩
      rw [hc'] at hN hcle
      have hC : Hid (M.cnt M.blankB t.data.toList = c) := hc'
      have hci : (c : Int) ≤ t.size := by omega
      clear h1 hc'
      by_cases hc0 : c = 0
      · subst hc0
        rw [if_pos (Or.inl rfl)] at hN
        have hN' : Hid (M.noChar s.data.toList = 0) := hN
        clear hN
        go_enter Tryz.func94, Tryz.ntmps94
        go_wp2_with (first
          | (go_at_call 89; refine (Tryz.strings_CutPrefix _ _ _).mono ?_; rintro e w' ⟨rfl, rfl⟩; rw [hP.out, hT.out])
          | (go_at_call 77; refine (count_c _ _ isBlank_f t (by omega) _).mono ?_; rintro e w' ⟨rfl, rfl⟩; rw [hC.out])
          | (go_at_call 82; refine (Tryz.strings_HasPrefix _ _ _).mono ?_; rintro e w' ⟨rfl, rfl⟩; rw [hP1.out]))
        go_ret
        exact ⟨by rw [hN'.out]; rfl, rfl⟩
      · have hcz : ((c : Int) == 0) = false := beq_eq_false_iff_ne.2 (by omega)
        cases h2 : [92].isPrefixOf (t.data.toList.drop c) with
        | false =>
          have hP2 : Hid (Lib.hasPrefix (t.extract c t.size).data.toList (ByteArray.mk #[92]).data.toList = false) := by show _ = _; rw [hasP]; exact h2
          rw [if_pos (Or.inr h2)] at hN
          have hN' : Hid (M.noChar s.data.toList = 0) := hN
          clear hN h2
          go_enter Tryz.func94, Tryz.ntmps94
          go_wp2_with (first
            | (go_at_call 89; refine (Tryz.strings_CutPrefix _ _ _).mono ?_; rintro e w' ⟨rfl, rfl⟩; rw [hP.out, hT.out])
            | (go_at_call 77; refine (count_c _ _ isBlank_f t (by omega) _).mono ?_; rintro e w' ⟨rfl, rfl⟩; rw [hC.out])
            | (go_at_call 82; refine (Tryz.strings_HasPrefix _ _ _).mono ?_; rintro e w' ⟨rfl, rfl⟩; first | rw [hP1.out] | rw [hP2.out]))
          go_ret
          exact ⟨by rw [hN'.out]; rfl, rfl⟩
        | true =>
          have hP2 : Hid (Lib.hasPrefix (t.extract c t.size).data.toList (ByteArray.mk #[92]).data.toList = true) := by show _ = _; rw [hasP]; exact h2
          rw [if_neg (by intro h; rcases h with h | h; exact hc0 h; rw [h2] at h; simp at h)] at hN
          have hN' : Hid (M.noChar s.data.toList = c + 2) := hN
          clear hN h2
          go_enter Tryz.func94, Tryz.ntmps94
          go_wp2_with (first
            | (go_at_call 89; refine (Tryz.strings_CutPrefix _ _ _).mono ?_; rintro e w' ⟨rfl, rfl⟩; rw [hP.out, hT.out])
            | (go_at_call 77; refine (count_c _ _ isBlank_f t (by omega) _).mono ?_; rintro e w' ⟨rfl, rfl⟩; rw [hC.out])
            | (go_at_call 82; refine (Tryz.strings_HasPrefix _ _ _).mono ?_; rintro e w' ⟨rfl, rfl⟩; first | rw [hP1.out] | rw [hP2.out]))
          go_ret
          exact ⟨by rw [hN'.out]; exact ret_int (by omega), rfl⟩

set_option maxHeartbeats 8000000 in
set_option maxRecDepth 100000 in
theorem takeChar_f : TakeFn 65 M.takeChar := by
  refine ⟨fun s hs w hG' => ?_, enters_of Tryz.func65 (by kernel_rfl) rfl⟩
  have hG : Hid (GOK w) := hG'
  clear hG'
  have hlen : s.data.toList.length = s.size := (Lib.size_eq s).symm
  cases hp : [39].isPrefixOf s.data.toList with
  | false =>
    have hP : Hid (Lib.hasPrefix s.data.toList (ByteArray.mk #[39]).data.toList = false) := hp
    have hN : Hid (M.takeChar s.data.toList = 0) := by show _ = _; unfold M.takeChar; rw [hp]; rfl
    clear hp
    go_enter Tryz.func65, Tryz.ntmps65
    go_wp2_with (go_at_call 82; refine (Tryz.strings_HasPrefix _ _ _).mono ?_; rintro e w' ⟨rfl, rfl⟩; rw [hP.out])
    go_ret
    exact ⟨by rw [hN.out]; rfl, Below.refl _ _⟩
  | true =>
    have hP : Hid (Lib.hasPrefix s.data.toList (ByteArray.mk #[39]).data.toList = true) := hp
    have hlt : 0 < s.size := by
      rcases Nat.eq_zero_or_pos s.size with h | h
      · obtain rfl := empty_of h
        simp at hp
      · exact h
    have h1 : (1 : Int) ≤ s.size := by omega
    have hN : M.takeChar s.data.toList = (if (M.character 39 (s.extract 1 s.size).data.toList).1 = 0 ∨ [39].isPrefixOf (s.data.toList.drop (1 + (M.character 39 (s.extract 1 s.size).data.toList).1)) = false then 0 else (M.character 39 (s.extract 1 s.size).data.toList).1 + 2) := by
      unfold M.takeChar; rw [hp, ext_end]; rfl
    clear hp
    have hts : (s.extract 1 s.size).size ≤ 70000 := by rw [size_drop]; omega
    have hle := M.character_le 39 (s.extract 1 s.size).data.toList
    rw [← Lib.size_eq, size_drop] at hle
    have hD := character_c (s.extract 1 s.size) 39 hts
    obtain ⟨⟨n, v⟩, hd⟩ : ∃ r, M.character 39 (s.extract 1 s.size).data.toList = r := ⟨_, rfl⟩
    rw [hd] at hD hN hle
    have hD' : Hid _ := hD
    clear hD hd
    simp only at hle hN
    by_cases hn : n = 0
    · subst hn
      rw [if_pos (Or.inl rfl)] at hN
      have hN' : Hid (M.takeChar s.data.toList = 0) := hN
      clear hN
      go_enter Tryz.func65, Tryz.ntmps65
      go_wp2_with (first
        | (go_at_call 82; refine (Tryz.strings_HasPrefix _ _ _).mono ?_; rintro e w' ⟨rfl, rfl⟩; rw [hP.out])
        | (go_at_call 69; refine (hD'.out _ hG.out).mono ?_; rintro e w2 ⟨rfl, hb⟩))
      go_ret
      exact ⟨by rw [hN'.out]; rfl, hb⟩
    · have hnz : ((n : Int) == 0) = false := beq_eq_false_iff_ne.2 (by omega)
      have hk : (1 : Int) + n ≤ s.size := by omega
      have hk' : ((1 + n : Nat) : Int).toNat = 1 + n := by omega
      have htn : ((1 : Int) + (n : Int)).toNat = 1 + n := by omega
      cases h2 : [39].isPrefixOf (s.data.toList.drop (1 + n)) with
      | false =>
        rw [if_pos (Or.inr h2)] at hN
        have hN' : Hid (M.takeChar s.data.toList = 0) := hN
        have hP2 : Hid (Lib.hasPrefix (s.extract (1 + n) s.size).data.toList (ByteArray.mk #[39]).data.toList = false) := by show _ = _; rw [hasP]; exact h2
        clear hN h2
        go_enter Tryz.func65, Tryz.ntmps65
        go_wp2_with (first
          | (go_at_call 82; refine (Tryz.strings_HasPrefix _ _ _).mono ?_; rintro e w' ⟨rfl, rfl⟩; first | rw [hP.out] | rw [htn, hP2.out] | rw [hP2.out])
          | (go_at_call 69; refine (hD'.out _ hG.out).mono ?_; rintro e w2 ⟨rfl, hb⟩))
        go_ret
        exact ⟨by rw [hN'.out]; rfl, hb⟩
      | true =>
        rw [if_neg (by intro h; rcases h with h | h; exact hn h; rw [h2] at h; simp at h)] at hN
        have hN' : Hid (M.takeChar s.data.toList = n + 2) := hN
        have hP2 : Hid (Lib.hasPrefix (s.extract (1 + n) s.size).data.toList (ByteArray.mk #[39]).data.toList = true) := by show _ = _; rw [hasP]; exact h2
        clear hN h2
        go_enter Tryz.func65, Tryz.ntmps65
        go_wp2_with (first
          | (go_at_call 82; refine (Tryz.strings_HasPrefix _ _ _).mono ?_; rintro e w' ⟨rfl, rfl⟩; first | rw [hP.out] | rw [htn, hP2.out] | rw [hP2.out])
          | (go_at_call 69; refine (hD'.out _ hG.out).mono ?_; rintro e w2 ⟨rfl, hb⟩))
        go_ret
        exact ⟨by rw [hN'.out]; exact ret_int (by omega), hb⟩

end Go.Proofs.YtldpldcfgkceeaaGreatDoor

namespace Go.Proofs.YtldpldcfgkceeaaGreatDoor
open Go.RowKit Go.Shelf
set_option linter.unusedVariables false

theorem Tryz.info5 : (Tryz.prog.info? 5).map (fun i => (i.zero, i.size, i.bytes)) = some (some (.int .u8 0), 1, 1) := by kernel_rfl
def cellsL (l : List UInt8) : List Value := l.map fun b => Value.int .u8 b.toNat
theorem owns_below {w w' : World} {B e size n : Nat} {v : Value} {xs : List Value} (h : w.ownsRow B e size v n xs) (hb : Below w.heap.size w w') : w'.ownsRow B e size v n xs := by
  rcases h with ⟨hl, h | ⟨g, cap, cur, h1, h2, h3, h4⟩⟩
  · exact ⟨hl, .inl h⟩
  · refine ⟨hl, .inr ⟨g, cap, cur, h1, h2, ?_, h4⟩⟩
    rw [hb.block g (by rcases Nat.lt_or_ge g w.heap.size with h | h; exact h; rw [Array.getElem?_eq_none h] at h3; simp at h3)]
    exact h3

theorem chars_pref (l : List UInt8) (h : [34].isPrefixOf l = true) : M.chars l = (match M.chs (l.length + 1) (l.drop 1) with | some r => (r.1 + 1, r.2) | none => (0, [])) := by
  unfold M.chars; rw [if_pos h]
  cases M.chs (l.length + 1) (l.drop 1) <;> rfl
theorem chs_end (f : Nat) (l : List UInt8) (h : [34].isPrefixOf l = true) : M.chs (f + 1) l = some (1, []) := by rw [M.chs, if_pos h]
theorem chs_no (f : Nat) (l : List UInt8) (h : [34].isPrefixOf l = false) (h2 : 0 < M.noChar l) : M.chs (f + 1) l = (M.chs f (l.drop (M.noChar l))).map fun r => (r.1 + M.noChar l, r.2) := by
  rw [M.chs, if_neg (by rw [h]; simp), if_pos h2]
theorem chs_bad (f : Nat) (l : List UInt8) (h : [34].isPrefixOf l = false) (h2 : M.noChar l = 0) (h3 : (M.character 34 l).1 = 0) : M.chs (f + 1) l = none := by
  rw [M.chs, if_neg (by rw [h]; simp), if_neg (by omega), if_pos h3]
theorem chs_yes (f : Nat) (l : List UInt8) (h : [34].isPrefixOf l = false) (h2 : M.noChar l = 0) (h3 : (M.character 34 l).1 ≠ 0) : M.chs (f + 1) l = (M.chs f (l.drop (M.character 34 l).1)).map fun r => (r.1 + (M.character 34 l).1, UInt8.ofNat (M.character 34 l).2 :: r.2) := by
  rw [M.chs, if_neg (by rw [h]; simp), if_neg (by omega), if_neg h3]

/-- Where the reading of a string stands: k bytes are behind it, and these characters. -/
def ChsAt (l : List UInt8) (k : Nat) (pre : List UInt8) : Prop :=
  ∃ f, (l.drop k).length < f ∧ 1 ≤ k ∧ pre.length ≤ k ∧ M.chs (l.length + 1) (l.drop 1) = (M.chs f (l.drop k)).map fun r => (r.1 + (k - 1), pre ++ r.2)

theorem chsAt_start (l : List UInt8) (h : 1 ≤ l.length) : ChsAt l 1 [] := by
  refine ⟨l.length + 1, by rw [List.length_drop]; omega, Nat.le_refl _, by simp, ?_⟩
  cases M.chs (l.length + 1) (l.drop 1) <;> simp
theorem chsAt_end (l : List UInt8) (k : Nat) (pre : List UInt8) (hp : [34].isPrefixOf l = true) (h : ChsAt l k pre) (he : [34].isPrefixOf (l.drop k) = true) : M.chars l = (k + 1, pre) := by
  obtain ⟨f, hf, hk, _, h⟩ := h
  obtain ⟨f', rfl⟩ : ∃ f', f = f' + 1 := ⟨f - 1, by omega⟩
  rw [chars_pref l hp, h, chs_end f' _ he]
  simp; omega
theorem chsAt_bad (l : List UInt8) (k : Nat) (pre : List UInt8) (hp : [34].isPrefixOf l = true) (h : ChsAt l k pre) (he : [34].isPrefixOf (l.drop k) = false) (h2 : M.noChar (l.drop k) = 0) (h3 : (M.character 34 (l.drop k)).1 = 0) : M.chars l = (0, []) := by
  obtain ⟨f, hf, hk, _, h⟩ := h
  obtain ⟨f', rfl⟩ : ∃ f', f = f' + 1 := ⟨f - 1, by omega⟩
  rw [chars_pref l hp, h, chs_bad f' _ he h2 h3]
  rfl
theorem chsAt_no (l : List UInt8) (k : Nat) (pre : List UInt8) (h : ChsAt l k pre) (he : [34].isPrefixOf (l.drop k) = false) (h2 : 0 < M.noChar (l.drop k)) : ChsAt l (k + M.noChar (l.drop k)) pre := by
  obtain ⟨f, hf, hk, hpk, h⟩ := h
  obtain ⟨f', rfl⟩ : ∃ f', f = f' + 1 := ⟨f - 1, by omega⟩
  have hle := M.noChar_le (l.drop k)
  rw [List.length_drop] at hf hle
  refine ⟨f', by rw [List.length_drop]; omega, by omega, by omega, ?_⟩
  rw [h, chs_no f' _ he h2, List.drop_drop]
  cases M.chs f' (l.drop (k + M.noChar (l.drop k))) <;> simp
  omega
theorem chsAt_yes (l : List UInt8) (k : Nat) (pre : List UInt8) (h : ChsAt l k pre) (he : [34].isPrefixOf (l.drop k) = false) (h2 : M.noChar (l.drop k) = 0) (h3 : (M.character 34 (l.drop k)).1 ≠ 0) : ChsAt l (k + (M.character 34 (l.drop k)).1) (pre ++ [UInt8.ofNat (M.character 34 (l.drop k)).2]) := by
  obtain ⟨f, hf, hk, hpk, h⟩ := h
  obtain ⟨f', rfl⟩ : ∃ f', f = f' + 1 := ⟨f - 1, by omega⟩
  have hle := M.character_le 34 (l.drop k)
  rw [List.length_drop] at hf hle
  refine ⟨f', by rw [List.length_drop]; omega, by omega, by simp; omega, ?_⟩
  rw [h, chs_yes f' _ he h2 h3, List.drop_drop]
  cases M.chs f' (l.drop (k + (M.character 34 (l.drop k)).1)) <;> simp
  omega

set_option maxHeartbeats 8000000 in
set_option maxRecDepth 100000 in
theorem characters_c (s : ByteArray) (hs : s.size ≤ 70000) (w : World) (hG' : GOK w) :
    Calls Tryz.prog 70 #[.string s] w fun e w' => ∃ v, e = .returned (.tuple #[.int .i64 ((M.chars s.data.toList).1 : Int), v]) ∧ w'.ownsRow w.heap.size 5 1 v (M.chars s.data.toList).2.length (cellsL (M.chars s.data.toList).2) ∧ Below w.heap.size w w' := by
  have hG : Hid (GOK w) := hG'
  clear hG'
  obtain ⟨i0, hi, hz0, hz1, hz2⟩ := info_parts Tryz.info5
  have hlen : s.data.toList.length = s.size := (Lib.size_eq s).symm
  cases hp : [34].isPrefixOf s.data.toList with
  | false =>
    have hP : Hid (Lib.hasPrefix s.data.toList (ByteArray.mk #[34]).data.toList = false) := hp
    have hN : Hid (M.chars s.data.toList = (0, [])) := by show _ = _; unfold M.chars; rw [hp]; rfl
    clear hp
    go_enter Tryz.func70, Tryz.ntmps70
    go_wp2_with (go_at_call 82; refine (Tryz.strings_HasPrefix _ _ _).mono ?_; rintro e w' ⟨rfl, rfl⟩; rw [hP.out])
    go_ret2
    refine ⟨_, by rw [hN.out]; rfl, ?_, Below.refl _ _⟩
    rw [hN.out]
    exact World.ownsRow_nil _ _ _ _
  | true =>
    have hP : Hid (Lib.hasPrefix s.data.toList (ByteArray.mk #[34]).data.toList = true) := hp
    have hlt0 : 0 < s.size := by
      rcases Nat.eq_zero_or_pos s.size with h | h
      · obtain rfl := empty_of h
        simp at hp
      · exact h
    have HP : Hid ([34].isPrefixOf s.data.toList = true) := hp
    clear hp
    go_enter Tryz.func70, Tryz.ntmps70
    go_wp2_with (go_at_call 82; refine (Tryz.strings_HasPrefix _ _ _).mono ?_; rintro e W ⟨rfl, rfl⟩; rw [hP.out])
    go_loopw [3, 4] (fun tx i wr => ∃ (k : Nat) (pre : List UInt8), k ≤ s.size ∧ pre.length ≤ k ∧ i = .int .i64 k ∧ Hid (ChsAt s.data.toList k pre) ∧ wr.ownsRow W.heap.size 5 1 tx pre.length (cellsL pre) ∧ Below W.heap.size W wr)
      (fun _ i _ => s.size - (intOf i).toNat)
    case atStart => exact ⟨1, [], by omega, by simp, rfl, chsAt_start _ (by omega), World.ownsRow_nil _ _ _ _, Below.refl _ _⟩
    case round =>
      obtain ⟨k, pre, hk, hpk, rfl, hat, hown, hB⟩ := hrel
      have hki : (k : Int) ≤ s.size := by omega
      have hGr : Hid (GOK wr) := hG.out.below hB
      have hts : (s.extract k s.size).size ≤ 70000 := by rw [size_drop]; omega
      have hxe : (s.extract k s.size).data.toList = s.data.toList.drop k := ext_end s k
      cases he : [34].isPrefixOf (s.data.toList.drop k) with
      | true =>
        have hP1 : Hid (Lib.hasPrefix (s.extract k s.size).data.toList (ByteArray.mk #[34]).data.toList = true) := by show _ = _; rw [hasP]; exact he
        have hN : Hid (M.chars s.data.toList = (k + 1, pre)) := chsAt_end _ k pre HP.out hat.out he
        clear he hxe
        go_wp2_with (go_at_call 82; refine (Tryz.strings_HasPrefix _ _ _).mono ?_; rintro e w2 ⟨rfl, rfl⟩; rw [hP1.out])
        go_ret2
        refine ⟨_, by rw [hN.out]; rfl, ?_, hB⟩
        rw [hN.out]
        exact hown
      | false =>
        have hP1 : Hid (Lib.hasPrefix (s.extract k s.size).data.toList (ByteArray.mk #[34]).data.toList = false) := by show _ = _; rw [hasP]; exact he
        have hnc := noCharacter_c (s.extract k s.size) hts
        have hnl := M.noChar_le (s.data.toList.drop k)
        rw [List.length_drop, hlen] at hnl
        rw [hxe] at hnc
        by_cases hn : 0 < M.noChar (s.data.toList.drop k)
        · have hat' : Hid (ChsAt s.data.toList (k + M.noChar (s.data.toList.drop k)) pre) := chsAt_no _ k pre hat.out he hn
          obtain ⟨n, hnn⟩ : ∃ n, M.noChar (s.data.toList.drop k) = n := ⟨_, rfl⟩
          rw [hnn] at hnc hn hat' hnl
          have hNC : Hid _ := hnc
          have hni : (0 : Int) < n := by omega
          have hkn : (k : Int) + n ≤ s.size := by omega
          clear hnc hnn he hxe
          go_wp2_with (first
            | (go_at_call 82; refine (Tryz.strings_HasPrefix _ _ _).mono ?_; rintro e w2 ⟨rfl, rfl⟩; rw [hP1.out])
            | (go_at_call 94; refine (hNC.out _).mono ?_; rintro e w2 ⟨rfl, rfl⟩))
          go_roundw
          case rel => exact ⟨k + n, pre, by omega, by omega, by go_num, hat', hown, hB⟩
          case measure => simp [intOf]; omega
        · have hn0 : M.noChar (s.data.toList.drop k) = 0 := by omega
          rw [hn0] at hnc
          have hNC : Hid _ := hnc
          have hcc := character_c (s.extract k s.size) 34 hts
          have hcl := M.character_le 34 (s.data.toList.drop k)
          have hcv := M.character_val 34 (s.data.toList.drop k)
          rw [hxe] at hcc
          rw [List.length_drop, hlen] at hcl
          by_cases hc0 : (M.character 34 (s.data.toList.drop k)).1 = 0
          · have hN : Hid (M.chars s.data.toList = (0, [])) := chsAt_bad _ k pre HP.out hat.out he hn0 hc0
            obtain ⟨⟨n, c⟩, hcd⟩ : ∃ r, M.character 34 (s.data.toList.drop k) = r := ⟨_, rfl⟩
            rw [hcd] at hcc hc0
            simp only at hc0
            subst hc0
            have hCC : Hid _ := hcc
            clear hcc hnc hcd he hxe hn0 hn hcl hcv
            go_wp2_with (first
              | (go_at_call 82; refine (Tryz.strings_HasPrefix _ _ _).mono ?_; rintro e w2 ⟨rfl, rfl⟩; rw [hP1.out])
              | (go_at_call 94; refine (hNC.out _).mono ?_; rintro e w2 ⟨rfl, rfl⟩)
              | (go_at_call 69; refine (hCC.out _ hGr.out).mono ?_; rintro e w3 ⟨rfl, hb3⟩))
            go_ret2
            refine ⟨_, by rw [hN.out]; rfl, ?_, hB.trans (hb3.mono hB.size)⟩
            rw [hN.out]
            exact World.ownsRow_nil _ _ _ _
          · have hat' : Hid (ChsAt s.data.toList (k + (M.character 34 (s.data.toList.drop k)).1) (pre ++ [UInt8.ofNat (M.character 34 (s.data.toList.drop k)).2])) := chsAt_yes _ k pre hat.out he hn0 hc0
            obtain ⟨⟨n, c⟩, hcd⟩ : ∃ r, M.character 34 (s.data.toList.drop k) = r := ⟨_, rfl⟩
            rw [hcd] at hcc hc0 hcl hcv hat'
            simp only at hc0 hcl hcv hat'
            have hCC : Hid _ := hcc
            have hni : ((n : Int) == 0) = false := beq_eq_false_iff_ne.2 (by omega)
            have hkn : (k : Int) + n ≤ s.size := by omega
            have hof : Hid ((UInt8.ofNat c).toNat = c) := by show _ = _; simp; omega
            clear hcc hnc hcd he hxe hn0 hn
            go_wp2_with (first
              | (go_at_call 82; refine (Tryz.strings_HasPrefix _ _ _).mono ?_; rintro e w2 ⟨rfl, rfl⟩; rw [hP1.out])
              | (go_at_call 94; refine (hNC.out _).mono ?_; rintro e w2 ⟨rfl, rfl⟩)
              | (go_at_call 69; refine (hCC.out _ hGr.out).mono ?_; rintro e w3 ⟨rfl, hb3⟩; have hown3 := owns_below hown hb3; have hB3 := hB.trans (hb3.mono hB.size))
              | (at_builtin; refine wpList_append_own _ rfl _ _ 100 rfl W.heap.size 5 i0 (.int .u8 0) 1 1 Tryz.underlying100 hi hz0 hz1 hz2 rfl (by decide) _ _ _ rfl (hown3.alloc _) ⟨w3.heap.size, 0, none⟩ 1 1 [.int .u8 (c : Int)] rfl rfl (cell_one_new _ _ _) (by simp [Value.oneCell']) (by unfold maxLen; omega) (by omega) (by have := hB3.size; simp; omega) ?_; intro o' w4 hown4 hgrow4 _))
            go_roundw
            case rel =>
              refine ⟨k + n, pre ++ [UInt8.ofNat c], by omega, by simp; omega, by go_num, hat', ?_, ?_⟩
              · have : cellsL (pre ++ [UInt8.ofNat c]) = cellsL pre ++ [.int .u8 (c : Int)] := by simp only [cellsL, List.map_append, List.map_cons, List.map_nil, hof.out]
                rw [this]
                simpa using hown4
              · exact (hB3.alloc hB3.size _).grown hgrow4 (by have := hB3.size; simp; omega) (fun j e => (hown3.lt j e).1)
            case measure => simp [intOf]; omega

theorem takeString_f : TakeFn 66 (fun l => (M.chars l).1) := by
  refine ⟨fun s hs w hG' => ?_, enters_of Tryz.func66 (by kernel_rfl) rfl⟩
  have hG : Hid (GOK w) := hG'
  clear hG'
  go_enter Tryz.func66, Tryz.ntmps66
  go_wp2_with (go_at_call 70; refine (characters_c s hs _ hG.out).mono ?_; rintro e w' ⟨v, rfl, _, hb⟩)
  go_ret
  exact ⟨rfl, hb⟩

end Go.Proofs.YtldpldcfgkceeaaGreatDoor
