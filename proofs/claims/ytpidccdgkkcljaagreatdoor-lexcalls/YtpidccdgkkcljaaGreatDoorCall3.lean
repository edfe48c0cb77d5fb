/-
  Reserved words and signs, as the program tells them, by contracts.
-/
import Derived.Test.YtpidccdgkkcljaaGreatDoorBlk
import Derived.Test.YtpidccdgkkcljaaGreatDoorRef1
import Derived.BigQuiet
namespace Go.Proofs.YtpidccdgkkcljaaGreatDoor
open Go.RowKit Go.Shelf Go.Maps
set_option linter.unusedVariables false

/-- Is a text one of some? -/
def has1 (L : List (List UInt8)) (x : List UInt8) : Bool := L.contains x
theorem has1_cons (y : List UInt8) (L : List (List UInt8)) (x : List UInt8) : has1 (y :: L) x = (x == y || has1 L x) := List.contains_cons
theorem bs_eq (x : List UInt8) (s : ByteArray) (h : x = s.data.toList) : bs x = s := by subst h; rfl
theorem bs_ne (x : List UInt8) (s : ByteArray) (h : x ≠ s.data.toList) : bs x ≠ s := by intro e; apply h; rw [← e]; rfl

set_option maxRecDepth 100000 in
set_option maxHeartbeats 4000000 in
theorem rOne_c (L : List (List UInt8)) (g n : Nat) (hL : L.length = n) (hn : n ≤ 100) (s : ByteArray) (w : World) (h : ∀ j x, L[j]? = some x → w.cell? ⟨g, j, none⟩ = some (.string (bs x))) :
    Calls Tryz.prog 46 #[.slice (some ⟨g, 0, none⟩) n n, .string s] w fun e w' => e = .returned (.bool (has1 L s.data.toList)) ∧ Below w.heap.size w w' := by
  have H : Hid (∀ j x, L[j]? = some x → w.cell? ⟨g, j, none⟩ = some (.string (bs x))) := h
  have HL : Hid (L.length = n) := hL
  have hni : (n : Int) ≤ 100 := by omega
  clear h hL hn
  go_enter Tryz.func46, Tryz.ntmps46
  go_wp2
  go_loop [5] (fun iv => ∃ k : Nat, k ≤ n ∧ iv = .int .i64 k ∧ Hid (has1 L s.data.toList = has1 (L.drop k) s.data.toList)) (fun iv => n - (intOf iv).toNat)
  case atStart => exact ⟨0, Nat.zero_le _, rfl, (by rw [List.drop_zero] : has1 L s.data.toList = has1 (L.drop 0) s.data.toList)⟩
  case round =>
    obtain ⟨k, hk, rfl, HK⟩ := hrel
    by_cases hlt : k < n
    · have hlti : (k : Int) < n := by omega
      have hkL : k < L.length := by rw [HL.out]; exact hlt
      have hc := H.out k L[k] (List.getElem?_eq_getElem hkL)
      have hd : L.drop k = L[k] :: L.drop (k + 1) := List.drop_eq_getElem_cons hkL
      obtain ⟨x, hx⟩ : ∃ x, L[k] = x := ⟨_, rfl⟩
      rw [hx] at hc hd
      clear hx hkL
      by_cases he : x = s.data.toList
      · have hb := bs_eq x s he
        rw [hb] at hc
        have HR : Hid (has1 L s.data.toList = true) := by show _ = _; rw [HK.out, hd, has1_cons, he]; simp
        clear hb hd he HK
        go_wp2
        go_ret
        exact ⟨by rw [HR.out]; rfl, Below.refl _ _⟩
      · have hb := bs_ne x s he
        have HR : Hid (has1 L s.data.toList = has1 (L.drop (k + 1)) s.data.toList) := by show _ = _; rw [HK.out, hd, has1_cons, beq_eq_false_iff_ne.2 (Ne.symm he)]; rfl
        obtain ⟨y, hy⟩ : ∃ y, bs x = y := ⟨_, rfl⟩
        rw [hy] at hc
        have hb1 : (y.toList == s.toList) = false := by
          rw [beq_eq_false_iff_ne, ByteArray.toList_eq, ByteArray.toList_eq, ← hy]
          exact he
        clear hd he HK hy hb
        go_wp2
        go_round
        case rel => exact ⟨k + 1, by omega, by go_num, HR⟩
        case measure => simp [intOf]; omega
    · obtain rfl : k = n := by omega
      have HR : Hid (has1 L s.data.toList = false) := by show _ = _; rw [HK.out, List.drop_eq_nil_of_le (by rw [HL.out]; exact Nat.le_refl _)]; rfl
      clear HK hlt hk
      go_wp2
      go_ret
      exact ⟨by rw [HR.out]; rfl, Below.refl _ _⟩

set_option maxRecDepth 100000 in
set_option maxHeartbeats 4000000 in
theorem rWords_c (w : World) :
    Calls Tryz.prog 47 #[] w fun e w' => e = .returned (.slice (some ⟨w.heap.size, 0, none⟩) 14 14) ∧ (∀ j x, M.wordL[j]? = some x → w'.cell? ⟨w.heap.size, j, none⟩ = some (.string (bs x))) ∧ Below w.heap.size w w' := by
  have hB : ∀ v : Array Value, Below w.heap.size w (w.alloc (.cells v 9)) := fun v => (Below.refl _ w).alloc (Nat.le_refl _) _
  go_enter Tryz.func47, Tryz.ntmps47
  go_wp2
  go_ret
  refine ⟨rfl, ?_, hB _⟩
  intro j x hx
  have hj : j < 14 := by
    have := (List.getElem?_eq_some_iff.1 hx).1
    exact this
  refine (Blk.new w _ _).cell j _ ?_
  have key : ∀ j < 14, ∀ x, M.wordL[j]? = some x → (#[.string ⟨#[99, 97, 115, 101]⟩, .string ⟨#[100, 97, 116, 97]⟩, .string ⟨#[100, 111]⟩, .string ⟨#[101, 108, 115, 101]⟩, .string ⟨#[105, 102]⟩, .string ⟨#[105, 110]⟩, .string ⟨#[105, 110, 102, 105, 120]⟩, .string ⟨#[105, 110, 102, 105, 120, 108]⟩, .string ⟨#[105, 110, 102, 105, 120, 114]⟩, .string ⟨#[108, 101, 116]⟩, .string ⟨#[111, 102]⟩, .string ⟨#[116, 104, 101, 110]⟩, .string ⟨#[119, 104, 101, 114, 101]⟩, .string ⟨#[95]⟩] : Array Value)[j]? = some (.string (bs x)) := by
    intro j hj x hx
    match j, hj with
    | 0, _ => cases hx; rfl
    | 1, _ => cases hx; rfl
    | 2, _ => cases hx; rfl
    | 3, _ => cases hx; rfl
    | 4, _ => cases hx; rfl
    | 5, _ => cases hx; rfl
    | 6, _ => cases hx; rfl
    | 7, _ => cases hx; rfl
    | 8, _ => cases hx; rfl
    | 9, _ => cases hx; rfl
    | 10, _ => cases hx; rfl
    | 11, _ => cases hx; rfl
    | 12, _ => cases hx; rfl
    | 13, _ => cases hx; rfl
  exact key j hj x hx
theorem rWord_c (s : ByteArray) (w : World) :
    Calls Tryz.prog 22 #[.string s] w fun e w' => e = .returned (.bool (has1 M.wordL s.data.toList)) ∧ Below w.heap.size w w' := by
  go_enter Tryz.func22, Tryz.ntmps22
  go_wp2_with (first
    | (go_at_call 47; refine (rWords_c _).mono ?_; rintro e w1 ⟨rfl, hc, hb1⟩; have HC : Hid _ := hc; clear hc)
    | (go_at_call 46; refine (rOne_c M.wordL w.heap.size 14 rfl (by decide) s _ HC.out).mono ?_; rintro e w2 ⟨rfl, hb2⟩))
  go_ret
  exact ⟨rfl, hb1.trans (hb2.mono hb1.size)⟩
set_option maxRecDepth 100000 in
set_option maxHeartbeats 4000000 in
theorem rSigns_c (w : World) :
    Calls Tryz.prog 48 #[] w fun e w' => e = .returned (.slice (some ⟨w.heap.size, 0, none⟩) 8 8) ∧ (∀ j x, M.signL[j]? = some x → w'.cell? ⟨w.heap.size, j, none⟩ = some (.string (bs x))) ∧ Below w.heap.size w w' := by
  have hB : ∀ v : Array Value, Below w.heap.size w (w.alloc (.cells v 9)) := fun v => (Below.refl _ w).alloc (Nat.le_refl _) _
  go_enter Tryz.func48, Tryz.ntmps48
  go_wp2
  go_ret
  refine ⟨rfl, ?_, hB _⟩
  intro j x hx
  have hj : j < 8 := by
    have := (List.getElem?_eq_some_iff.1 hx).1
    exact this
  refine (Blk.new w _ _).cell j _ ?_
  have key : ∀ j < 8, ∀ x, M.signL[j]? = some x → (#[.string ⟨#[46, 46]⟩, .string ⟨#[61]⟩, .string ⟨#[92]⟩, .string ⟨#[124]⟩, .string ⟨#[60, 45]⟩, .string ⟨#[45, 62]⟩, .string ⟨#[64]⟩, .string ⟨#[126]⟩] : Array Value)[j]? = some (.string (bs x)) := by
    intro j hj x hx
    match j, hj with
    | 0, _ => cases hx; rfl
    | 1, _ => cases hx; rfl
    | 2, _ => cases hx; rfl
    | 3, _ => cases hx; rfl
    | 4, _ => cases hx; rfl
    | 5, _ => cases hx; rfl
    | 6, _ => cases hx; rfl
    | 7, _ => cases hx; rfl
  exact key j hj x hx
theorem rSign_c (s : ByteArray) (w : World) :
    Calls Tryz.prog 24 #[.string s] w fun e w' => e = .returned (.bool (has1 M.signL s.data.toList)) ∧ Below w.heap.size w w' := by
  go_enter Tryz.func24, Tryz.ntmps24
  go_wp2_with (first
    | (go_at_call 48; refine (rSigns_c _).mono ?_; rintro e w1 ⟨rfl, hc, hb1⟩; have HC : Hid _ := hc; clear hc)
    | (go_at_call 46; refine (rOne_c M.signL w.heap.size 8 rfl (by decide) s _ HC.out).mono ?_; rintro e w2 ⟨rfl, hb2⟩))
  go_ret
  exact ⟨rfl, hb1.trans (hb2.mono hb1.size)⟩


set_option maxHeartbeats 4000000 in
set_option maxRecDepth 100000 in
theorem word_c (s : ByteArray) (hs : s.size ≤ maxLen) (w : World) :
    Calls Tryz.prog 21 #[.string s] w fun e w' => e = .returned (.bool (has1 M.wordL s.data.toList)) ∧ Below w.heap.size w w' := by
  have hkey : Hid (keyOf Tryz.prog 9 (.string s) = some (.string s.data.toList)) := key_str s hs
  have hW : Hid (Maps.has (Dof M.wordL) (.string s.data.toList) = M.wordL.contains s.data.toList) := has_Dof M.wordL s.data.toList
  obtain ⟨c, hc⟩ : ∃ c, M.wordL.contains s.data.toList = c := ⟨_, rfl⟩
  have hR : Hid (has1 M.wordL s.data.toList = c) := hc
  have hW' : Hid (Maps.has (Dof M.wordL) (.string s.data.toList) = c) := hW.out.trans hc
  have HC : Hid (∀ W : World, Calls Tryz.prog 30 #[] W fun e W' => ∃ b, e = .returned (.map (some b)) ∧ Hid (SetAt W' b M.wordL) ∧ Below W.heap.size W W') := words_c
  clear hc hW hs
  go_enter Tryz.func21, Tryz.ntmps21
  go_wp2_with (go_at_call 30; fail)
  refine (HC.out _).mono ?_
  rintro e w1 ⟨b, rfl, hS, hb⟩
  have HB : Hid (Below w.heap.size w w1) := hb
  obtain ⟨n, hn, hown⟩ := hS.out
  have hO : Hid (w1.ownsMap Tryz.prog 9 unitElem b n (Dof M.wordL)) := hown
  clear hb hn hown
  cases c
  · go_wp2_with (at_lookup; refine wpList_lookup_own_unit _ rfl _ _ 45 rfl 9 65 (string_keyed Tryz.underlying9) Tryz.underlying45 (zeroUnit _) b n (Dof M.wordL) rfl hO.out _ _ rfl hkey.out ?_; rw [hW'.out])
    go_ret
    exact ⟨by rw [hR.out]; rfl, HB.out.alloc HB.out.size _⟩
  · go_wp2_with (at_lookup; refine wpList_lookup_own_unit _ rfl _ _ 45 rfl 9 65 (string_keyed Tryz.underlying9) Tryz.underlying45 (zeroUnit _) b n (Dof M.wordL) rfl hO.out _ _ rfl hkey.out ?_; rw [hW'.out])
    go_ret
    exact ⟨by rw [hR.out]; rfl, HB.out.alloc HB.out.size _⟩

set_option maxHeartbeats 4000000 in
set_option maxRecDepth 100000 in
theorem sign_c (s : ByteArray) (hs : s.size ≤ maxLen) (w : World) :
    Calls Tryz.prog 23 #[.string s] w fun e w' => e = .returned (.bool (has1 M.signL s.data.toList)) ∧ Below w.heap.size w w' := by
  have hkey : Hid (keyOf Tryz.prog 9 (.string s) = some (.string s.data.toList)) := key_str s hs
  have hW : Hid (Maps.has (Dof M.signL) (.string s.data.toList) = M.signL.contains s.data.toList) := has_Dof M.signL s.data.toList
  obtain ⟨c, hc⟩ : ∃ c, M.signL.contains s.data.toList = c := ⟨_, rfl⟩
  have hR : Hid (has1 M.signL s.data.toList = c) := hc
  have hW' : Hid (Maps.has (Dof M.signL) (.string s.data.toList) = c) := hW.out.trans hc
  have HC : Hid (∀ W : World, Calls Tryz.prog 31 #[] W fun e W' => ∃ b, e = .returned (.map (some b)) ∧ Hid (SetAt W' b M.signL) ∧ Below W.heap.size W W') := signs_c
  clear hc hW hs
  go_enter Tryz.func23, Tryz.ntmps23
  go_wp2_with (go_at_call 31; fail)
  refine (HC.out _).mono ?_
  rintro e w1 ⟨b, rfl, hS, hb⟩
  have HB : Hid (Below w.heap.size w w1) := hb
  obtain ⟨n, hn, hown⟩ := hS.out
  have hO : Hid (w1.ownsMap Tryz.prog 9 unitElem b n (Dof M.signL)) := hown
  clear hb hn hown
  cases c
  · go_wp2_with (at_lookup; refine wpList_lookup_own_unit _ rfl _ _ 45 rfl 9 65 (string_keyed Tryz.underlying9) Tryz.underlying45 (zeroUnit _) b n (Dof M.signL) rfl hO.out _ _ rfl hkey.out ?_; rw [hW'.out])
    go_ret
    exact ⟨by rw [hR.out]; rfl, HB.out.alloc HB.out.size _⟩
  · go_wp2_with (at_lookup; refine wpList_lookup_own_unit _ rfl _ _ 45 rfl 9 65 (string_keyed Tryz.underlying9) Tryz.underlying45 (zeroUnit _) b n (Dof M.signL) rfl hO.out _ _ rfl hkey.out ?_; rw [hW'.out])
    go_ret
    exact ⟨by rw [hR.out]; rfl, HB.out.alloc HB.out.size _⟩

end Go.Proofs.YtpidccdgkkcljaaGreatDoor
