/-
  Strings of package lex, by a contract.
-/
import Derived.Maps.AppendAt
import Derived.Test.YtndpebkiiemfpaaGreatDoorChars2
namespace Go.Proofs.YtndpebkiiemfpaaGreatDoor
open Go.RowKit Go.Shelf
set_option linter.unusedVariables false

theorem Tryz.info5 : (Tryz.prog.info? 5).map (fun i => (i.zero, i.size, i.bytes)) = some (some (.int .u8 0), 1, 1) := by kernel_rfl
def cellsL (l : List UInt8) : List Value := l.map fun b => Value.int .u8 b.toNat
theorem owns_below {w w' : World} {B e size n : Nat} {v : Value} {xs : List Value} (h : w.ownsRow B e size v n xs) (hb : Below w.heap.size w w') : w'.ownsRow B e size v n xs := by
  rcases h with ⟨hl, h | ⟨g, cap, cur, h1, h2, h3, h4⟩⟩
  · exact ⟨hl, .inl h⟩
  · refine ⟨hl, .inr ⟨g, cap, cur, h1, h2, ?_, h4⟩⟩
    rw [hb.block g (by rcases Nat.lt_or_ge g w.heap.size with h | h; exact h; rw [Array.getElem?_eq_none h] at h3; simp at h3)]
    exact h3

theorem chars_pref (l : List UInt8) (h : [34].isPrefixOf l = true) : M.chars l = (match M.chs (l.length + 1) (l.drop 1) with | some r => (r.1 + 1, r.2) | none => (0, [])) := by
  unfold M.chars; rw [if_pos h]
  cases M.chs (l.length + 1) (l.drop 1) <;> rfl
theorem chs_end (f : Nat) (l : List UInt8) (h : [34].isPrefixOf l = true) : M.chs (f + 1) l = some (1, []) := by rw [M.chs, if_pos h]
theorem chs_no (f : Nat) (l : List UInt8) (h : [34].isPrefixOf l = false) (h2 : 0 < M.noChar l) : M.chs (f + 1) l = (M.chs f (l.drop (M.noChar l))).map fun r => (r.1 + M.noChar l, r.2) := by
  rw [M.chs, if_neg (by rw [h]; simp), if_pos h2]
theorem chs_bad (f : Nat) (l : List UInt8) (h : [34].isPrefixOf l = false) (h2 : M.noChar l = 0) (h3 : (M.character 34 l).1 = 0) : M.chs (f + 1) l = none := by
  rw [M.chs, if_neg (by rw [h]; simp), if_neg (by omega), if_pos h3]
theorem chs_yes (f : Nat) (l : List UInt8) (h : [34].isPrefixOf l = false) (h2 : M.noChar l = 0) (h3 : (M.character 34 l).1 ≠ 0) : M.chs (f + 1) l = (M.chs f (l.drop (M.character 34 l).1)).map fun r => (r.1 + (M.character 34 l).1, UInt8.ofNat (M.character 34 l).2 :: r.2) := by
  rw [M.chs, if_neg (by rw [h]; simp), if_neg (by omega), if_neg h3]

/-- Where the reading of a string stands: k bytes are behind it, and these characters. -/
def ChsAt (l : List UInt8) (k : Nat) (pre : List UInt8) : Prop :=
  ∃ f, (l.drop k).length < f ∧ 1 ≤ k ∧ pre.length ≤ k ∧ M.chs (l.length + 1) (l.drop 1) = (M.chs f (l.drop k)).map fun r => (r.1 + (k - 1), pre ++ r.2)

theorem chsAt_start (l : List UInt8) (h : 1 ≤ l.length) : ChsAt l 1 [] := by
  refine ⟨l.length + 1, by rw [List.length_drop]; omega, Nat.le_refl _, by simp, ?_⟩
  cases M.chs (l.length + 1) (l.drop 1) <;> simp
theorem chsAt_end (l : List UInt8) (k : Nat) (pre : List UInt8) (hp : [34].isPrefixOf l = true) (h : ChsAt l k pre) (he : [34].isPrefixOf (l.drop k) = true) : M.chars l = (k + 1, pre) := by
  obtain ⟨f, hf, hk, _, h⟩ := h
  obtain ⟨f', rfl⟩ : ∃ f', f = f' + 1 := ⟨f - 1, by omega⟩
  rw [chars_pref l hp, h, chs_end f' _ he]
  simp; omega
theorem chsAt_bad (l : List UInt8) (k : Nat) (pre : List UInt8) (hp : [34].isPrefixOf l = true) (h : ChsAt l k pre) (he : [34].isPrefixOf (l.drop k) = false) (h2 : M.noChar (l.drop k) = 0) (h3 : (M.character 34 (l.drop k)).1 = 0) : M.chars l = (0, []) := by
  obtain ⟨f, hf, hk, _, h⟩ := h
  obtain ⟨f', rfl⟩ : ∃ f', f = f' + 1 := ⟨f - 1, by omega⟩
  rw [chars_pref l hp, h, chs_bad f' _ he h2 h3]
  rfl
theorem chsAt_no (l : List UInt8) (k : Nat) (pre : List UInt8) (h : ChsAt l k pre) (he : [34].isPrefixOf (l.drop k) = false) (h2 : 0 < M.noChar (l.drop k)) : ChsAt l (k + M.noChar (l.drop k)) pre := by
  obtain ⟨f, hf, hk, hpk, h⟩ := h
  obtain ⟨f', rfl⟩ : ∃ f', f = f' + 1 := ⟨f - 1, by omega⟩
  have hle := M.noChar_le (l.drop k)
  rw [List.length_drop] at hf hle
  refine ⟨f', by rw [List.length_drop]; omega, by omega, by omega, ?_⟩
  rw [h, chs_no f' _ he h2, List.drop_drop]
  cases M.chs f' (l.drop (k + M.noChar (l.drop k))) <;> simp
  omega
theorem chsAt_yes (l : List UInt8) (k : Nat) (pre : List UInt8) (h : ChsAt l k pre) (he : [34].isPrefixOf (l.drop k) = false) (h2 : M.noChar (l.drop k) = 0) (h3 : (M.character 34 (l.drop k)).1 ≠ 0) : ChsAt l (k + (M.character 34 (l.drop k)).1) (pre ++ [UInt8.ofNat (M.character 34 (l.drop k)).2]) := by
  obtain ⟨f, hf, hk, hpk, h⟩ := h
  obtain ⟨f', rfl⟩ : ∃ f', f = f' + 1 := ⟨f - 1, by omega⟩
  have hle := M.character_le 34 (l.drop k)
  rw [List.length_drop] at hf hle
  refine ⟨f', by rw [List.length_drop]; omega, by omega, by simp; omega, ?_⟩
  rw [h, chs_yes f' _ he h2 h3, List.drop_drop]
  cases M.chs f' (l.drop (k + (M.character 34 (l.drop k)).1)) <;> simp
  omega

set_option maxHeartbeats 8000000 in
set_option maxRecDepth 100000 in
theorem characters_c (s : ByteArray) (hs : s.size ≤ 70000) (w : World) (hG' : GOK w) :
    Calls Tryz.prog 63 #[.string s] w fun e w' => ∃ v, e = .returned (.tuple #[.int .i64 ((M.chars s.data.toList).1 : Int), v]) ∧ w'.ownsRow w.heap.size 5 1 v (M.chars s.data.toList).2.length (cellsL (M.chars s.data.toList).2) ∧ Below w.heap.size w w' := by
  have hG : Hid (GOK w) := hG'
  clear hG'
  obtain ⟨i0, hi, hz0, hz1, hz2⟩ := info_parts Tryz.info5
  have hlen : s.data.toList.length = s.size := (Lib.size_eq s).symm
  cases hp : [34].isPrefixOf s.data.toList with
  | false =>
    have hP : Hid (Lib.hasPrefix s.data.toList (ByteArray.mk #[34]).data.toList = false) := hp
    have hN : Hid (M.chars s.data.toList = (0, [])) := by show _ = _; unfold M.chars; rw [hp]; rfl
    clear hp
    go_enter Tryz.func63, Tryz.ntmps63
    go_wp2_with (go_at_call 108; refine (Tryz.strings_HasPrefix _ _ _).mono ?_; rintro e w' ⟨rfl, rfl⟩; rw [hP.out])
    go_ret2
    refine ⟨_, by rw [hN.out]; rfl, ?_, Below.refl _ _⟩
    rw [hN.out]
    exact World.ownsRow_nil _ _ _ _
  | true =>
    have hP : Hid (Lib.hasPrefix s.data.toList (ByteArray.mk #[34]).data.toList = true) := hp
    have hlt0 : 0 < s.size := by
      rcases Nat.eq_zero_or_pos s.size with h | h
      · obtain rfl := empty_of h
        simp at hp
      · exact h
    have HP : Hid ([34].isPrefixOf s.data.toList = true) := hp
    clear hp
    go_enter Tryz.func63, Tryz.ntmps63
    go_wp2_with (go_at_call 108; refine (Tryz.strings_HasPrefix _ _ _).mono ?_; rintro e W ⟨rfl, rfl⟩; rw [hP.out])
    go_loopw [3, 4] (fun tx i wr => ∃ (k : Nat) (pre : List UInt8), k ≤ s.size ∧ pre.length ≤ k ∧ i = .int .i64 k ∧ Hid (ChsAt s.data.toList k pre) ∧ wr.ownsRow W.heap.size 5 1 tx pre.length (cellsL pre) ∧ Below W.heap.size W wr)
      (fun _ i _ => s.size - (intOf i).toNat)
    case atStart => exact ⟨1, [], by omega, by simp, rfl, chsAt_start _ (by omega), World.ownsRow_nil _ _ _ _, Below.refl _ _⟩
    case round =>
      obtain ⟨k, pre, hk, hpk, rfl, hat, hown, hB⟩ := hrel
      have hki : (k : Int) ≤ s.size := by omega
      have hGr : Hid (GOK wr) := hG.out.below hB
      have hts : (s.extract k s.size).size ≤ 70000 := by rw [size_drop]; omega
      have hxe : (s.extract k s.size).data.toList = s.data.toList.drop k := ext_end s k
      cases he : [34].isPrefixOf (s.data.toList.drop k) with
      | true =>
        have hP1 : Hid (Lib.hasPrefix (s.extract k s.size).data.toList (ByteArray.mk #[34]).data.toList = true) := by show _ = _; rw [hasP]; exact he
        have hN : Hid (M.chars s.data.toList = (k + 1, pre)) := chsAt_end _ k pre HP.out hat.out he
        clear he hxe
        go_wp2_with (go_at_call 108; refine (Tryz.strings_HasPrefix _ _ _).mono ?_; rintro e w2 ⟨rfl, rfl⟩; rw [hP1.out])
        go_ret2
        refine ⟨_, by rw [hN.out]; rfl, ?_, hB⟩
        rw [hN.out]
        exact hown
      | false =>
        have hP1 : Hid (Lib.hasPrefix (s.extract k s.size).data.toList (ByteArray.mk #[34]).data.toList = false) := by show _ = _; rw [hasP]; exact he
        have hnc := noCharacter_c (s.extract k s.size) hts
        have hnl := M.noChar_le (s.data.toList.drop k)
        rw [List.length_drop, hlen] at hnl
        rw [hxe] at hnc
        by_cases hn : 0 < M.noChar (s.data.toList.drop k)
        · have hat' : Hid (ChsAt s.data.toList (k + M.noChar (s.data.toList.drop k)) pre) := chsAt_no _ k pre hat.out he hn
          obtain ⟨n, hnn⟩ : ∃ n, M.noChar (s.data.toList.drop k) = n := ⟨_, rfl⟩
          rw [hnn] at hnc hn hat' hnl
          have hNC : Hid _ := hnc
          have hni : (0 : Int) < n := by omega
          have hkn : (k : Int) + n ≤ s.size := by omega
          clear hnc hnn he hxe
          go_wp2_with (first
            | (go_at_call 108; refine (Tryz.strings_HasPrefix _ _ _).mono ?_; rintro e w2 ⟨rfl, rfl⟩; rw [hP1.out])
            | (go_at_call 120; refine (hNC.out _).mono ?_; rintro e w2 ⟨rfl, rfl⟩))
          go_roundw
          case rel => exact ⟨k + n, pre, by omega, by omega, by go_num, hat', hown, hB⟩
          case measure => simp [intOf]; omega
        · have hn0 : M.noChar (s.data.toList.drop k) = 0 := by omega
          rw [hn0] at hnc
          have hNC : Hid _ := hnc
          have hcc := character_c (s.extract k s.size) 34 hts
          have hcl := M.character_le 34 (s.data.toList.drop k)
          have hcv := M.character_val 34 (s.data.toList.drop k)
          rw [hxe] at hcc
          rw [List.length_drop, hlen] at hcl
          by_cases hc0 : (M.character 34 (s.data.toList.drop k)).1 = 0
          · have hN : Hid (M.chars s.data.toList = (0, [])) := chsAt_bad _ k pre HP.out hat.out he hn0 hc0
            obtain ⟨⟨n, c⟩, hcd⟩ : ∃ r, M.character 34 (s.data.toList.drop k) = r := ⟨_, rfl⟩
            rw [hcd] at hcc hc0
            simp only at hc0
            subst hc0
            have hCC : Hid _ := hcc
            clear hcc hnc hcd he hxe hn0 hn hcl hcv
            go_wp2_with (first
              | (go_at_call 108; refine (Tryz.strings_HasPrefix _ _ _).mono ?_; rintro e w2 ⟨rfl, rfl⟩; rw [hP1.out])
              | (go_at_call 120; refine (hNC.out _).mono ?_; rintro e w2 ⟨rfl, rfl⟩)
              | (go_at_call 62; refine (hCC.out _ hGr.out).mono ?_; rintro e w3 ⟨rfl, hb3⟩))
            go_ret2
            refine ⟨_, by rw [hN.out]; rfl, ?_, hB.trans (hb3.mono hB.size)⟩
            rw [hN.out]
            exact World.ownsRow_nil _ _ _ _
          · have hat' : Hid (ChsAt s.data.toList (k + (M.character 34 (s.data.toList.drop k)).1) (pre ++ [UInt8.ofNat (M.character 34 (s.data.toList.drop k)).2])) := chsAt_yes _ k pre hat.out he hn0 hc0
            obtain ⟨⟨n, c⟩, hcd⟩ : ∃ r, M.character 34 (s.data.toList.drop k) = r := ⟨_, rfl⟩
            rw [hcd] at hcc hc0 hcl hcv hat'
            simp only at hc0 hcl hcv hat'
            have hCC : Hid _ := hcc
            have hni : ((n : Int) == 0) = false := beq_eq_false_iff_ne.2 (by omega)
            have hkn : (k : Int) + n ≤ s.size := by omega
            have hof : Hid ((UInt8.ofNat c).toNat = c) := by show _ = _; simp; omega
            clear hcc hnc hcd he hxe hn0 hn
            go_wp2_with (first
              | (go_at_call 108; refine (Tryz.strings_HasPrefix _ _ _).mono ?_; rintro e w2 ⟨rfl, rfl⟩; rw [hP1.out])
              | (go_at_call 120; refine (hNC.out _).mono ?_; rintro e w2 ⟨rfl, rfl⟩)
              | (go_at_call 62; refine (hCC.out _ hGr.out).mono ?_; rintro e w3 ⟨rfl, hb3⟩; have hown3 := owns_below hown hb3; have hB3 := hB.trans (hb3.mono hB.size))
              | (at_builtin; refine wpList_append_own _ rfl _ _ 59 rfl W.heap.size 5 i0 (.int .u8 0) 1 1 Tryz.underlying59 hi hz0 hz1 hz2 rfl (by decide) _ _ _ rfl (hown3.alloc _) ⟨w3.heap.size, 0, none⟩ 1 1 [.int .u8 (c : Int)] rfl rfl (cell_one_new _ _ _) (by simp [Value.oneCell']) (by unfold maxLen; omega) (by omega) (by have := hB3.size; simp; omega) ?_; intro o' w4 hown4 hgrow4 _))
            go_roundw
            case rel =>
              refine ⟨k + n, pre ++ [UInt8.ofNat c], by omega, by simp; omega, by go_num, hat', ?_, ?_⟩
              · have : cellsL (pre ++ [UInt8.ofNat c]) = cellsL pre ++ [.int .u8 (c : Int)] := by simp only [cellsL, List.map_append, List.map_cons, List.map_nil, hof.out]
                rw [this]
                simpa using hown4
              · exact (hB3.alloc hB3.size _).grown hgrow4 (by have := hB3.size; simp; omega) (fun j e => (hown3.lt j e).1)
            case measure => simp [intOf]; omega

theorem takeString_f : TakeFn 59 (fun l => (M.chars l).1) := by
  refine ⟨fun s hs w hG' => ?_, enters_of Tryz.func59 (by kernel_rfl) rfl⟩
  have hG : Hid (GOK w) := hG'
  clear hG'
  go_enter Tryz.func59, Tryz.ntmps59
  go_wp2_with (go_at_call 63; refine (characters_c s hs _ hG.out).mono ?_; rintro e w' ⟨v, rfl, _, hb⟩)
  go_ret
  exact ⟨rfl, hb⟩

end Go.Proofs.YtndpebkiiemfpaaGreatDoor
