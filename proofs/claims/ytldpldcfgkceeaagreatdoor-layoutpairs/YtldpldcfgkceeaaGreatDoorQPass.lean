/-
  What stands between lexemes, symbols and marks, by contracts.
  Remarks and marks, by contracts.
  Remarks in braces, and marks, by contracts.
-/
import Derived.Test.YtldpldcfgkceeaaGreatDoorQTake
import Derived.Test.YtldpldcfgkceeaaGreatDoorShelf
import Derived.Test.YtldpldcfgkceeaaGreatDoorQGlob
namespace Go.Proofs.YtldpldcfgkceeaaGreatDoor
open Go.RowKit Go.Shelf
set_option linter.unusedVariables false

theorem idx_cons (a b : UInt8) (l : List UInt8) : Lib.indexByte (a :: l) b = if a == b then 0 else if Lib.indexByte l b == -1 then -1 else Lib.indexByte l b + 1 := rfl
theorem idx_mem (b : UInt8) : ∀ l : List UInt8, decide (0 ≤ Lib.indexByte l b) = l.contains b
  | [] => by rfl
  | a :: l => by
    have ih := idx_mem b l
    have hge := Lib.indexByte_ge l b
    rw [idx_cons, List.contains_cons]
    by_cases h : a = b
    · subst h; simp
    · have h1 : (a == b) = false := by simpa using h
      have h2 : (b == a) = false := by simpa using Ne.symm h
      rw [h1, h2, Bool.false_or, ← ih, if_neg (by simp)]
      by_cases h3 : Lib.indexByte l b = -1
      · rw [h3]; rfl
      · rw [if_neg (by simpa using h3)]
        rw [decide_eq_decide]; omega
theorem idx_ten : ∀ l : List UInt8, (Lib.indexByte l 10 = -1 ∧ M.cnt M.notNL l = l.length) ∨ Lib.indexByte l 10 = M.cnt M.notNL l
  | [] => .inl ⟨rfl, rfl⟩
  | a :: l => by
    have hge := Lib.indexByte_ge l 10
    by_cases h : a = 10
    · subst h
      right
      rw [idx_cons]
      simp [M.cnt, M.notNL]
    · have h1 : (a == 10) = false := by simpa using h
      have h2 : M.notNL a = true := by
        unfold M.notNL
        rw [decide_eq_true_eq]
        intro h3; exact h (UInt8.toNat_inj.1 h3)
      have hc : M.cnt M.notNL (a :: l) = M.cnt M.notNL l + 1 := by simp [M.cnt, h2]
      have he : Lib.indexByte (a :: l) 10 = if Lib.indexByte l 10 == -1 then -1 else Lib.indexByte l 10 + 1 := by rw [idx_cons, h1]; rfl
      rw [hc, he]
      rcases idx_ten l with ⟨h3, h4⟩ | h3
      · left; rw [h3, h4]; exact ⟨rfl, rfl⟩
      · right
        rw [h3, if_neg]
        · simp
        · rw [beq_iff_eq]; omega
theorem dashB_iff (b : UInt8) : M.dashB b = (b == 45) := by
  unfold M.dashB
  rw [Bool.eq_iff_iff, decide_eq_true_eq, beq_iff_eq]
  exact ⟨fun h => UInt8.toNat_inj.1 h, fun h => by rw [h]; rfl⟩
theorem dropWhile_nil (p : UInt8 → Bool) : ∀ l : List UInt8, (l.dropWhile p = []) ↔ l.all p = true
  | [] => by simp
  | a :: l => by
    have ih := dropWhile_nil p l
    by_cases h : p a = true
    · simp [h] at ih ⊢; exact ih
    · simp [h]
theorem trim_nil (l : List UInt8) : (Lib.trimB l 45 = []) ↔ l.all M.dashB = true := by
  have hf : M.dashB = (· == (45 : UInt8)) := funext dashB_iff
  rw [hf]
  unfold Lib.trimB Lib.trimLeftB Lib.trimRightB
  constructor
  · intro h
    rw [dropWhile_nil, List.all_reverse] at h
    by_cases h2 : (l.reverse.dropWhile (· == (45 : UInt8))) = []
    · rw [dropWhile_nil, List.all_reverse] at h2; exact h2
    · have := List.head_dropWhile_not (· == (45 : UInt8)) h2
      have h3 := List.all_eq_true.1 h _ (List.head_mem h2)
      rw [h3] at this; simp at this
  · intro h
    have h2 : (l.reverse.dropWhile (· == (45 : UInt8))) = [] := by rw [dropWhile_nil, List.all_reverse]; exact h
    rw [h2]; rfl

theorem toU8 (b : UInt8) : ((b.toNat : Int)).toNat.toUInt8 = b := by simp

set_option maxRecDepth 100000 in
set_option maxHeartbeats 1000000 in
theorem symbol_c (b : UInt8) (w : World) : Calls Tryz.prog 79 #[.int .u8 (b.toNat : Int)] w fun e w' => e = .returned (.bool (M.sym b)) ∧ w' = w := by
  have hi := idx_mem b M.symL
  obtain ⟨v, hv'⟩ : ∃ v, Lib.indexByte M.symL b = v := ⟨_, rfl⟩
  rw [hv'] at hi
  have hv : Hid (Lib.indexByte M.symL b = v) := hv'
  have hs : Hid (M.sym b = decide (0 ≤ v)) := hi.symm
  clear hv' hi
  go_enter Tryz.func79, Tryz.ntmps79
  go_wp2_with (go_at_call 81; refine (Tryz.strings_IndexByte _ _ _).mono ?_; rintro e w' ⟨rfl, rfl⟩; rw [toU8, show (ByteArray.mk #[33, 35, 36, 37, 38, 42, 43, 46, 47, 60, 61, 62, 63, 64, 92, 94, 124, 45, 126, 58]).data.toList = M.symL from rfl, hv.out])
  go_ret
  exact ⟨by rw [hs.out]; rfl, rfl⟩
theorem symbol_f : ByteFn 79 M.sym := ⟨symbol_c, enters_of Tryz.func79 (by kernel_rfl) rfl⟩

set_option maxHeartbeats 1000000 in
theorem beginsOp_c (b : UInt8) (w : World) : Calls Tryz.prog 87 #[.int .u8 (b.toNat : Int)] w fun e w' => e = .returned (.bool (M.begOp b)) ∧ w' = w := by
  go_enter Tryz.func87, Tryz.ntmps87
  go_wp2_with (first | (go_at_call 79; refine (symbol_c b _).mono ?_; rintro e w1 ⟨rfl, rfl⟩) | (go_at_call 88; refine (isColon_c b _).mono ?_; rintro e w2 ⟨rfl, rfl⟩))
  all_goals go_ret
  all_goals refine ⟨ret_bool ?_, rfl⟩
  all_goals simp_all [M.begOp]
theorem beginsOp_f : ByteFn 87 M.begOp := ⟨beginsOp_c, enters_of Tryz.func87 (by kernel_rfl) rfl⟩

/-- A function of a rest of a text that answers how many bytes it takes. -/
def TakeFn (g : Nat) (t : List UInt8 → Nat) : Prop :=
  (∀ (s : ByteArray), s.size ≤ 70000 → ∀ (w : World), GOK w → Calls Tryz.prog g #[.string s] w fun e w' => e = .returned (.int .i64 (t s.data.toList)) ∧ Below w.heap.size w w') ∧ Enters Tryz.prog g

theorem takeName_f : TakeFn 60 (M.headed M.begName M.inName) := by
  refine ⟨fun s hs w _ => ?_, enters_of Tryz.func60 (by kernel_rfl) rfl⟩
  go_enter Tryz.func60, Tryz.ntmps60
  go_wp2_with (go_at_call 83; refine (headed_c _ _ _ _ beginsName_f withinName_f s (by omega) _).mono ?_; rintro e w' ⟨rfl, rfl⟩)
  go_ret
  exact ⟨rfl, Below.refl _ _⟩
theorem takeCon_f : TakeFn 61 (M.headed M.capB M.inName) := by
  refine ⟨fun s hs w _ => ?_, enters_of Tryz.func61 (by kernel_rfl) rfl⟩
  go_enter Tryz.func61, Tryz.ntmps61
  go_wp2_with (go_at_call 83; refine (headed_c _ _ _ _ isCapital_f withinName_f s (by omega) _).mono ?_; rintro e w' ⟨rfl, rfl⟩)
  go_ret
  exact ⟨rfl, Below.refl _ _⟩
theorem takeOp_f : TakeFn 62 (M.headed M.begOp M.sym) := by
  refine ⟨fun s hs w _ => ?_, enters_of Tryz.func62 (by kernel_rfl) rfl⟩
  go_enter Tryz.func62, Tryz.ntmps62
  go_wp2_with (go_at_call 83; refine (headed_c _ _ _ _ beginsOp_f symbol_f s (by omega) _).mono ?_; rintro e w' ⟨rfl, rfl⟩)
  go_ret
  exact ⟨rfl, Below.refl _ _⟩
theorem takeConOp_f : TakeFn 63 (M.headed M.colonB M.sym) := by
  refine ⟨fun s hs w _ => ?_, enters_of Tryz.func63 (by kernel_rfl) rfl⟩
  go_enter Tryz.func63, Tryz.ntmps63
  go_wp2_with (go_at_call 83; refine (headed_c _ _ _ _ isColon_f symbol_f s (by omega) _).mono ?_; rintro e w' ⟨rfl, rfl⟩)
  go_ret
  exact ⟨rfl, Below.refl _ _⟩
theorem passBlanks_f : TakeFn 57 (M.cnt M.blankB) := by
  refine ⟨fun s hs w _ => ?_, enters_of Tryz.func57 (by kernel_rfl) rfl⟩
  go_enter Tryz.func57, Tryz.ntmps57
  go_wp2_with (go_at_call 77; refine (count_c _ _ isBlank_f s (by omega) _).mono ?_; rintro e w' ⟨rfl, rfl⟩)
  go_ret
  exact ⟨rfl, Below.refl _ _⟩

end Go.Proofs.YtldpldcfgkceeaaGreatDoor

namespace Go.Proofs.YtldpldcfgkceeaaGreatDoor
open Go.RowKit Go.Shelf
set_option linter.unusedVariables false

theorem isEmpty_iff (s : ByteArray) : s.toList.isEmpty = true ↔ s.data.toList = [] := by rw [ByteArray.toList_eq, List.isEmpty_iff]

set_option maxRecDepth 100000 in
set_option maxHeartbeats 1000000 in
theorem passDashes_f : TakeFn 58 M.passDashes := by
  refine ⟨fun s hs w _ => ?_, enters_of Tryz.func58 (by kernel_rfl) rfl⟩
  have hdep : Tryz.prog.follows Departure.mixedOrders = true := by kernel_rfl
  have hdef := M.passDashes_def s.data.toList
  have hcle : M.cnt M.sym s.data.toList ≤ s.size := by rw [Lib.size_eq]; exact M.cnt_le _ _
  have hten := idx_ten s.data.toList
  have hlen : s.data.toList.length = s.size := (Lib.size_eq s).symm
  obtain ⟨c, hc'⟩ : ∃ c, M.cnt M.sym s.data.toList = c := ⟨_, rfl⟩
  rw [hc'] at hdef hcle
  have hc : Hid (M.cnt M.sym s.data.toList = c) := hc'
  clear hc'
  have hci : (c : Int) ≤ s.size := by omega
  have htr := trim_nil (s.data.toList.take c)
  obtain ⟨T, hT'⟩ : ∃ T : ByteArray, (⟨(Lib.trimB (s.extract 0 c).data.toList 45).toArray⟩ : ByteArray) = T := ⟨_, rfl⟩
  have hTe : T.data.toList = Lib.trimB (s.data.toList.take c) 45 := by rw [← hT', ext_to]
  have hT : Hid ((⟨(Lib.trimB (s.extract 0 c).data.toList 45).toArray⟩ : ByteArray) = T) := hT'
  clear hT'
  have hsc : (s.extract 0 c).size ≤ 9223372036854775807 := by rw [Lib.size_eq, ext_to, List.length_take, ← Lib.size_eq]; omega
  by_cases h2 : (c : Int) < 2
  · rw [if_pos (Or.inl (by omega))] at hdef
    have hD : Hid (M.passDashes s.data.toList = 0) := hdef
    clear hdef hten hTe htr hlen
    go_enter Tryz.func58, Tryz.ntmps58
    go_wp2_with (first
      | (go_at_call 77; refine (count_c _ _ symbol_f s (by omega) _).mono ?_; rintro e w' ⟨rfl, rfl⟩; rw [hc.out]))
    go_ret
    exact ⟨by rw [hD.out]; rfl, Below.refl _ _⟩
  · by_cases h3 : (s.data.toList.take c).all M.dashB = false
    · rw [if_pos (Or.inr h3)] at hdef
      have hD : Hid (M.passDashes s.data.toList = 0) := hdef
      have hTn : T.toList.isEmpty = false := by
        rw [Bool.eq_false_iff]
        intro h4
        rw [isEmpty_iff, hTe, htr, h3] at h4
        simp at h4
      clear hdef hten hTe htr hlen h3
      go_enter Tryz.func58, Tryz.ntmps58
      go_wp2_with (first
        | (go_at_call 77; refine (count_c _ _ symbol_f s (by omega) _).mono ?_; rintro e w' ⟨rfl, rfl⟩; rw [hc.out])
        | (go_at_call 80; refine (Tryz.strings_Trim_one _ 45 (by decide) _ hsc).mono ?_; rintro e w' ⟨rfl, hw⟩; rw [hT.out]; rcases hw with rfl | rfl))
      all_goals go_ret
      all_goals exact ⟨by rw [hD.out]; rfl, by repeat (first | exact Below.refl _ _ | apply Below.drew)⟩
    · rw [if_neg (by intro h4; rcases h4 with h4 | h4; exact absurd h4 (by omega); exact h3 h4)] at hdef
      have hTn : T.toList.isEmpty = true := by
        rw [isEmpty_iff, hTe, htr]; simpa using h3
      clear hTe htr h3
      obtain ⟨v, hv'⟩ : ∃ v, Lib.indexByte s.data.toList (((10 : Int)).toNat.toUInt8) = v := ⟨_, rfl⟩
      have hvt : Lib.indexByte s.data.toList 10 = v := hv'
      have hv : Hid (Lib.indexByte s.data.toList (((10 : Int)).toNat.toUInt8) = v) := hv'
      rw [hvt] at hten
      clear hv' hvt
      by_cases h5 : v < 0
      · have hD : Hid (M.passDashes s.data.toList = s.size) := by
          show _ = _
          rw [hdef]
          rcases hten with ⟨_, h6⟩ | h6
          · rw [h6, hlen]
          · omega
        have h5' : ¬ (0 : Int) ≤ v := by omega
        clear hdef hten hlen h5
        go_enter Tryz.func58, Tryz.ntmps58
        go_wp2_with (first
          | (go_at_call 77; refine (count_c _ _ symbol_f s (by omega) _).mono ?_; rintro e w' ⟨rfl, rfl⟩; rw [hc.out])
          | (go_at_call 81; refine (Tryz.strings_IndexByte _ _ _).mono ?_; rintro e w' ⟨rfl, rfl⟩; rw [hv.out])
          | (go_at_call 80; refine (Tryz.strings_Trim_one _ 45 (by decide) _ hsc).mono ?_; rintro e w' ⟨rfl, hw⟩; rw [hT.out]; rcases hw with rfl | rfl))
        all_goals go_ret
        all_goals exact ⟨by rw [hD.out]; rfl, by repeat (first | exact Below.refl _ _ | apply Below.drew)⟩
      · have hD : Hid ((M.passDashes s.data.toList : Int) = v) := by
          show _ = _
          rw [hdef]
          rcases hten with ⟨h6, _⟩ | h6
          · omega
          · rw [h6]
        have h5' : (0 : Int) ≤ v := by omega
        clear hdef hten hlen h5
        go_enter Tryz.func58, Tryz.ntmps58
        go_wp2_with (first
          | (go_at_call 77; refine (count_c _ _ symbol_f s (by omega) _).mono ?_; rintro e w' ⟨rfl, rfl⟩; rw [hc.out])
          | (go_at_call 81; refine (Tryz.strings_IndexByte _ _ _).mono ?_; rintro e w' ⟨rfl, rfl⟩; rw [hv.out])
          | (go_at_call 80; refine (Tryz.strings_Trim_one _ 45 (by decide) _ hsc).mono ?_; rintro e w' ⟨rfl, hw⟩; rw [hT.out]; rcases hw with rfl | rfl))
        all_goals go_ret
        all_goals exact ⟨by rw [hD.out]; rfl, by repeat (first | exact Below.refl _ _ | apply Below.drew)⟩

end Go.Proofs.YtldpldcfgkceeaaGreatDoor

namespace Go.Proofs.YtldpldcfgkceeaaGreatDoor
open Go.RowKit Go.Shelf
set_option linter.unusedVariables false

theorem b_eq {b : UInt8} (c : UInt8) : (c == b) = true ↔ b.toNat = c.toNat := by
  rw [beq_iff_eq]
  exact ⟨fun h => by rw [h], fun h => (UInt8.toNat_inj.1 h).symm⟩
theorem pref_two (c d : UInt8) (l : List UInt8) (h : [c, d].isPrefixOf l = true) : ∃ t, l = c :: d :: t := by
  rw [List.isPrefixOf_iff_prefix] at h
  obtain ⟨t, rfl⟩ := h
  exact ⟨t, rfl⟩
theorem nest_open (d n : Nat) (l : List UInt8) (h : [123, 45].isPrefixOf l = true) : M.nest d n l = M.nest (d + 1) (n + 2) (l.drop 2) ∧ 2 ≤ l.length := by
  obtain ⟨t, rfl⟩ := pref_two _ _ _ h
  refine ⟨?_, by simp⟩
  rw [M.nest, if_pos ⟨by decide, by decide⟩]; rfl
theorem nest_close (d n : Nat) (l : List UInt8) (h : [45, 125].isPrefixOf l = true) : M.nest d n l = (if d = 1 then some (n + 2) else M.nest (d - 1) (n + 2) (l.drop 2)) ∧ 2 ≤ l.length := by
  obtain ⟨t, rfl⟩ := pref_two _ _ _ h
  refine ⟨?_, by simp⟩
  rw [M.nest, if_neg (by decide), if_pos ⟨by decide, by decide⟩]; rfl
theorem nest_other (d n : Nat) (l : List UInt8) (h0 : l ≠ []) (h1 : [123, 45].isPrefixOf l = false) (h2 : [45, 125].isPrefixOf l = false) : M.nest d n l = M.nest d (n + 1) (l.drop 1) := by
  match l with
  | [] => exact absurd rfl h0
  | [b] => rfl
  | b :: c :: t =>
    rw [M.pref2] at h1 h2
    rw [M.nest, if_neg, if_neg]
    · rfl
    · rintro ⟨a1, a2⟩
      rw [(b_eq 45).2 a1, (b_eq 125).2 a2] at h2; simp at h2
    · rintro ⟨a1, a2⟩
      rw [(b_eq 123).2 a1, (b_eq 45).2 a2] at h1; simp at h1

theorem hasP (s p : ByteArray) (k : Nat) : Lib.hasPrefix (s.extract k s.size).data.toList p.data.toList = p.data.toList.isPrefixOf (s.data.toList.drop k) := by rw [ext_end]; rfl

theorem not_prefix_nil (c d : UInt8) : [c, d].isPrefixOf ([] : List UInt8) = false := rfl

set_option maxRecDepth 100000 in
set_option maxHeartbeats 2000000 in
theorem passNested_f : TakeFn 59 M.passNested := by
  refine ⟨fun s hs w _ => ?_, enters_of Tryz.func59 (by kernel_rfl) rfl⟩
  have hlen : s.data.toList.length = s.size := (Lib.size_eq s).symm
  cases hp0 : [123, 45].isPrefixOf s.data.toList with
  | false =>
    have hD : Hid (M.passNested s.data.toList = 0) := by show _ = _; unfold M.passNested; rw [hp0]; rfl
    have hP : Hid (Lib.hasPrefix s.data.toList (ByteArray.mk #[123, 45]).data.toList = false) := hp0
    clear hp0
    go_enter Tryz.func59, Tryz.ntmps59
    go_wp2_with (go_at_call 82; refine (Tryz.strings_HasPrefix _ _ _).mono ?_; rintro e w' ⟨rfl, rfl⟩; rw [hP.out])
    go_ret
    exact ⟨by rw [hD.out]; rfl, Below.refl _ _⟩
  | true =>
    have hD : Hid (M.passNested s.data.toList = (M.nest 0 0 s.data.toList).getD 0) := by show _ = _; unfold M.passNested; rw [hp0]; rfl
    have hP : Hid (Lib.hasPrefix s.data.toList (ByteArray.mk #[123, 45]).data.toList = true) := hp0
    clear hp0
    have hsi : (s.size : Int) ≤ 70000 := by omega
    go_enter Tryz.func59, Tryz.ntmps59
    go_wp2_with (go_at_call 82; refine (Tryz.strings_HasPrefix _ _ _).mono ?_; rintro e w' ⟨rfl, rfl⟩; rw [hP.out])
    go_loop [3, 4] (fun o i => ∃ k d : Nat, k ≤ s.size ∧ d ≤ k ∧ (d = 0 → k = 0) ∧ i = .int .i64 k ∧ o = .int .i64 d ∧ Hid (M.nest 0 0 s.data.toList = M.nest d k (s.data.toList.drop k))) (fun _ i => s.size - (intOf i).toNat)
    case atStart => exact ⟨0, 0, Nat.zero_le _, Nat.le_refl _, fun h => h, rfl, rfl, (by rw [List.drop_zero] : M.nest 0 0 s.data.toList = M.nest 0 0 (s.data.toList.drop 0))⟩
    case round =>
      obtain ⟨k, d, hk, hdk, hd0, rfl, rfl, hf⟩ := hrel
      have hdki : (d : Int) ≤ k := by omega
      by_cases hlt : k < s.size
      · have hki : (k : Int) ≤ s.size := by omega
        cases h1 : [123, 45].isPrefixOf (s.data.toList.drop k) with
        | true =>
          have hst := nest_open d k _ h1
          rw [List.length_drop, hlen] at hst
          have hk2 : k + 2 ≤ s.size := by omega
          have hN : Hid (M.nest 0 0 s.data.toList = M.nest (d + 1) (k + 2) (s.data.toList.drop (k + 2))) := by
            show _ = _
            rw [hf.out, hst.1, List.drop_drop]
          have hP1 : Hid (Lib.hasPrefix (s.extract k s.size).data.toList (ByteArray.mk #[123, 45]).data.toList = true) := by show _ = _; rw [hasP]; exact h1
          clear h1 hst hf
          go_wp2_with (go_at_call 82; refine (Tryz.strings_HasPrefix _ _ _).mono ?_; rintro e w' ⟨rfl, rfl⟩; rw [hP1.out])
          go_round
          case rel => exact ⟨k + 2, d + 1, by omega, by omega, by omega, by go_num, by go_num, hN⟩
          case measure => simp [intOf]; omega
        | false =>
          have hP1 : Hid (Lib.hasPrefix (s.extract k s.size).data.toList (ByteArray.mk #[123, 45]).data.toList = false) := by show _ = _; rw [hasP]; exact h1
          cases h2 : [45, 125].isPrefixOf (s.data.toList.drop k) with
          | true =>
            have hP2 : Hid (Lib.hasPrefix (s.extract k s.size).data.toList (ByteArray.mk #[45, 125]).data.toList = true) := by show _ = _; rw [hasP]; exact h2
            have hst := nest_close d k _ h2
            rw [List.length_drop, hlen] at hst
            have hk2 : k + 2 ≤ s.size := by omega
            have hd1 : 1 ≤ d := by
              rcases Nat.eq_zero_or_pos d with h | h
              · have := hd0 h
                subst this
                have h3 : [123, 45].isPrefixOf (s.data.toList.drop 0) = true := hP.out
                rw [h3] at h1; simp at h1
              · exact h
            by_cases hd2 : d = 1
            · subst hd2
              have hN : Hid (M.passNested s.data.toList = k + 2) := by
                show _ = _
                rw [hD.out, hf.out, hst.1, if_pos rfl]; rfl
              clear h1 h2 hst hf
              go_wp2_with (go_at_call 82; refine (Tryz.strings_HasPrefix _ _ _).mono ?_; rintro e w' ⟨rfl, rfl⟩; first | rw [hP1.out] | rw [hP2.out])
              go_ret
              exact ⟨by rw [hN.out]; exact ret_int (by omega), Below.refl _ _⟩
            · have hN : Hid (M.nest 0 0 s.data.toList = M.nest (d - 1) (k + 2) (s.data.toList.drop (k + 2))) := by
                show _ = _
                rw [hf.out, hst.1, if_neg hd2, List.drop_drop]
              clear h1 h2 hst hf
              have hne : ((d : Int) - 1 == 0) = false := beq_eq_false_iff_ne.2 (by omega)
              go_wp2_with (go_at_call 82; refine (Tryz.strings_HasPrefix _ _ _).mono ?_; rintro e w' ⟨rfl, rfl⟩; first | rw [hP1.out] | rw [hP2.out])
              go_round
              case rel => exact ⟨k + 2, d - 1, by omega, by omega, by omega, by go_num, by congr 1; omega, hN⟩
              case measure => simp [intOf]; omega
          | false =>
            have hP2 : Hid (Lib.hasPrefix (s.extract k s.size).data.toList (ByteArray.mk #[45, 125]).data.toList = false) := by show _ = _; rw [hasP]; exact h2
            have hne : s.data.toList.drop k ≠ [] := by
              intro h
              have := congrArg List.length h
              rw [List.length_drop, hlen] at this
              simp at this; omega
            have hd1 : 1 ≤ d := by
              rcases Nat.eq_zero_or_pos d with h | h
              · have := hd0 h
                subst this
                have h3 : [123, 45].isPrefixOf (s.data.toList.drop 0) = true := hP.out
                rw [h3] at h1; simp at h1
              · exact h
            have hN : Hid (M.nest 0 0 s.data.toList = M.nest d (k + 1) (s.data.toList.drop (k + 1))) := by
              show _ = _
              rw [hf.out, nest_other d k _ hne h1 h2, List.drop_drop]
            clear h1 h2 hne hf
            go_wp2_with (go_at_call 82; refine (Tryz.strings_HasPrefix _ _ _).mono ?_; rintro e w' ⟨rfl, rfl⟩; first | rw [hP1.out] | rw [hP2.out])
            go_round
            case rel => exact ⟨k + 1, d, by omega, by omega, by omega, by go_num, rfl, hN⟩
            case measure => simp [intOf]; omega
      · have hN : Hid (M.passNested s.data.toList = 0) := by
          show _ = _
          rw [hD.out, hf.out, List.drop_eq_nil_of_le (by omega)]; rfl
        clear hf
        go_wp2
        go_ret
        exact ⟨by rw [hN.out]; rfl, Below.refl _ _⟩

set_option maxRecDepth 100000 in
set_option maxHeartbeats 1000000 in
theorem takeMark_f : TakeFn 67 M.takeMark := by
  refine ⟨fun s hs w _ => ?_, enters_of Tryz.func67 (by kernel_rfl) rfl⟩
  by_cases h0 : s.size = 0
  · obtain rfl := empty_of h0
    go_enter Tryz.func67, Tryz.ntmps67
    go_wp2
    go_ret
    exact ⟨rfl, Below.refl _ _⟩
  · have hlt : 0 < s.size := by omega
    have hne := ne_empty hlt
    have hcons := cons_of hlt
    have htm : M.takeMark s.data.toList = if [123, 45].isPrefixOf s.data.toList then 0 else if M.markL.contains s[0] then 1 else 0 := by
      conv => lhs; rw [hcons]
      rw [M.takeMark_cons, ← hcons]
    clear hcons
    cases h1 : [123, 45].isPrefixOf s.data.toList with
    | true =>
      have hP : Hid (Lib.hasPrefix s.data.toList (ByteArray.mk #[123, 45]).data.toList = true) := h1
      rw [h1, if_pos rfl] at htm
      have hD : Hid (M.takeMark s.data.toList = 0) := htm
      clear htm h1
      go_enter Tryz.func67, Tryz.ntmps67
      go_wp2_with (go_at_call 82; refine (Tryz.strings_HasPrefix _ _ _).mono ?_; rintro e w' ⟨rfl, rfl⟩; rw [hP.out])
      go_ret
      exact ⟨by rw [hD.out]; rfl, Below.refl _ _⟩
    | false =>
      have hP : Hid (Lib.hasPrefix s.data.toList (ByteArray.mk #[123, 45]).data.toList = false) := h1
      rw [h1, if_neg (by simp), ← idx_mem] at htm
      obtain ⟨v, hv'⟩ : ∃ v, Lib.indexByte M.markL s[0] = v := ⟨_, rfl⟩
      rw [hv'] at htm
      have hv : Hid (Lib.indexByte M.markL s[0] = v) := hv'
      clear hv' h1
      by_cases h2 : v < 0
      · have hD : Hid (M.takeMark s.data.toList = 0) := by show _ = _; rw [htm, if_neg (by simp; omega)]
        clear htm
        go_enter Tryz.func67, Tryz.ntmps67
        go_wp2_with (first
          | (go_at_call 82; refine (Tryz.strings_HasPrefix _ _ _).mono ?_; rintro e w' ⟨rfl, rfl⟩; rw [hP.out])
          | (go_at_call 81; refine (Tryz.strings_IndexByte _ _ _).mono ?_; rintro e w' ⟨rfl, rfl⟩; rw [toU8, show (ByteArray.mk #[40, 41, 91, 93, 44, 59, 96, 123, 125]).data.toList = M.markL from rfl, hv.out]))
        go_ret
        exact ⟨by rw [hD.out]; rfl, Below.refl _ _⟩
      · have hD : Hid (M.takeMark s.data.toList = 1) := by show _ = _; rw [htm, if_pos (by simp; omega)]
        clear htm
        go_enter Tryz.func67, Tryz.ntmps67
        go_wp2_with (first
          | (go_at_call 82; refine (Tryz.strings_HasPrefix _ _ _).mono ?_; rintro e w' ⟨rfl, rfl⟩; rw [hP.out])
          | (go_at_call 81; refine (Tryz.strings_IndexByte _ _ _).mono ?_; rintro e w' ⟨rfl, rfl⟩; rw [toU8, show (ByteArray.mk #[40, 41, 91, 93, 44, 59, 96, 123, 125]).data.toList = M.markL from rfl, hv.out]))
        go_ret
        exact ⟨by rw [hD.out]; rfl, Below.refl _ _⟩

end Go.Proofs.YtldpldcfgkceeaaGreatDoor
