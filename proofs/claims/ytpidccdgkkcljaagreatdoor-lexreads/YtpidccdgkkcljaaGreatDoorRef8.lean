/-
  The document's characters and strings, by contracts.
-/
import Derived.Test.YtpidccdgkkcljaaGreatDoorRef7c
import Derived.Test.YtpidccdgkkcljaaGreatDoorBlk
import Derived.Test.YtpidccdgkkcljaaGreatDoorChars3
namespace Go.Proofs.YtpidccdgkkcljaaGreatDoor
open Go.RowKit Go.Shelf Go.Maps
set_option linter.unusedVariables false

theorem blk_belowQ {W W' : World} {B P : Nat} {vs : Array Value} {T : TypeId} (h : Blk W B vs T) (hP : B < P) (hb : Below P W W') : Blk W' B vs T := by
  unfold Blk; rw [hb.block B hP]; exact h
/-- A token and how many bytes, as a value. -/
def lexV (r : M.T0 × Nat) : Value := .tuple #[tokV r.1.kind (bs r.1.text) r.1.num 0 0 0 false, .int .i64 (r.2 : Int)]
theorem char39 (r : List UInt8) : M.charR 39 r = if (M.character 39 r).1 = 0 then ((0 : Int), 0) else (((M.character 39 r).2 : Nat), (M.character 39 r).1) := by
  unfold M.charR
  rw [if_neg (by rintro ⟨h, _⟩; exact absurd h (by decide))]
theorem lexR_char' (b : UInt8) (r : List UInt8) (h : M.cls b = 5) : M.lexR (b :: r) = if (M.charR 39 r).2 = 0 ∨ [39].isPrefixOf (r.drop (M.charR 39 r).2) = false then (⟨0, [], 0⟩, 0) else (⟨6, [], (M.charR 39 r).1.toNat⟩, (M.charR 39 r).2 + 2) := by
  rw [M.lexR_char b r h, char39]
  by_cases h0 : (M.character 39 r).1 = 0
  · rw [if_pos (Or.inl h0), if_pos h0]; simp
  · rw [if_neg h0]; simp
theorem char39_bounds (r : List UInt8) : 0 ≤ (M.charR 39 r).1 ∧ (M.charR 39 r).1 ≤ 255 ∧ (M.charR 39 r).2 ≤ r.length := by
  have h1 := M.character_val 39 r
  have h2 := M.character_le 39 r
  rw [char39]
  split
  · simp
  · simp only; omega

set_option maxRecDepth 100000 in
set_option maxHeartbeats 8000000 in
theorem rQuoted39_c (s : ByteArray) (a : Nat) (hs : s.size ≤ 70000) (ha : a < s.size) (h39 : s[a].toNat = 39) (w : World) :
    Calls Tryz.prog 74 #[.string s, .int .i64 (a : Int)] w fun e w' => e = .returned (lexV (M.lexR (s.data.toList.drop a))) ∧ Below w.heap.size w w' := by
  have hlti : (a : Int) < s.size := by omega
  have hai : (a : Int) ≤ 69999 := by omega
  have hsi : (s.size : Int) ≤ 70000 := by omega
  have q39 : ((s[a].toNat : Int) == 39) = true := beq_iff_eq.2 (by omega)
  have hcl : M.cls s[a] = 5 := by have := (M.cls_facts s[a]).2.2.2.2.2.1; rw [h39] at this; simpa using this.symm
  have HL := lexR_char' s[a] (s.data.toList.drop (a + 1)) hcl
  rw [← drop_one s a ha] at HL
  have hbd := char39_bounds (s.data.toList.drop (a + 1))
  rw [List.length_drop, ← Lib.size_eq] at hbd
  have HC : Hid (∀ w : World, Calls Tryz.prog 98 #[.string s, .int .i64 ((a : Int) + 1), .int .u8 39] w fun e w' => e = .returned (charV (M.charR 39 (s.data.toList.drop (a + 1)))) ∧ Below w.heap.size w w') := fun w => by
    have := rChar39_c s (a + 1) hs (by omega) w
    rw [show ((a + 1 : Nat) : Int) = (a : Int) + 1 by omega] at this
    exact this
  obtain ⟨⟨c, n⟩, hcn⟩ : ∃ r, M.charR 39 (s.data.toList.drop (a + 1)) = r := ⟨_, rfl⟩
  rw [hcn] at HL hbd HC
  rw [List.drop_drop] at HL
  simp only at HL hbd
  have HC' : Hid (∀ w : World, Calls Tryz.prog 98 #[.string s, .int .i64 ((a : Int) + 1), .int .u8 39] w fun e w' => e = .returned (.tuple #[.int .i64 c, .int .i64 (n : Int)]) ∧ Below w.heap.size w w') := HC.out
  obtain ⟨c', rfl⟩ := Int.eq_ofNat_of_zero_le hbd.1
  have hc1 : (c' : Int) ≤ 255 := hbd.2.1
  rw [Int.toNat_natCast] at HL
  have hn1 : (a : Int) + 1 + n ≤ s.size := by omega
  have HB : Hid (∀ v : Array Value, Below w.heap.size w (w.alloc (.cells v 30))) := fun v => (Below.refl _ w).alloc (Nat.le_refl _) _
  clear hcl hbd hcn HC h39 hs
  by_cases hn : n = 0
  · subst hn
    rw [if_pos (Or.inl rfl)] at HL
    have HL' : Hid (M.lexR (s.data.toList.drop a) = (⟨0, [], 0⟩, 0)) := HL
    clear HL hn1
    go_enter Tryz.func74, Tryz.ntmps74
    go_wp2_with (go_at_call 98; fail)
    refine (HC'.out _).mono ?_
    rintro e w2 ⟨rfl, hb⟩
    obtain ⟨ac0, ac1, ac2, ac3, ac4, ac5, ac6, af0, af1, af2, af3, af4, af5, af6⟩ := ((Blk.new w _ _).below hb).all7
    have HB2 : Hid (Below w.heap.size w w2) := (HB.out _).trans (hb.mono (HB.out _).size)
    clear hb
    go_wp2
    exact bodyPost_ret (v := lexV (⟨0, [], 0⟩, 0)) (by simp [results, Tryz.results74, go_sem, lexV, tokV, ac0, ac1, ac2, ac3, ac4, ac5, ac6, bs]) rfl ⟨by rw [HL'.out], by repeat (first | (refine Below.setCell ?_ (by simp) _) | exact HB2.out)⟩
  · have en0 : ((n : Int) == 0) = false := beq_eq_false_iff_ne.2 (by omega)
    by_cases hlt : a + 1 + n < s.size
    · have hlt' : (a : Int) + 1 + n < s.size := by omega
      rw [drop_one s (a + 1 + n) hlt, M.pref1] at HL
      by_cases hq : s[a + 1 + n].toNat = 39
      · rw [if_neg (by rintro (h | h); exact hn h; rw [beq_iff_eq.2 (UInt8.toNat_inj.1 (by rw [hq]; rfl))] at h; simp at h)] at HL
        have HL' : Hid (M.lexR (s.data.toList.drop a) = (⟨6, [], c'⟩, n + 2)) := HL
        have e2 : ((s[a + 1 + n].toNat : Int) != 39) = false := by simp only [bne, beq_iff_eq.2 (show (s[a + 1 + n].toNat : Int) = 39 by omega)]; rfl
        have d1 : decide ((s.size : Int) ≤ (a : Int) + 1 + n) = false := decide_eq_false (by omega)
        clear HL hq hn hn1
        go_enter Tryz.func74, Tryz.ntmps74
        go_wp2_with (go_at_call 98; fail)
        refine (HC'.out _).mono ?_
        rintro e w2 ⟨rfl, hb⟩
        obtain ⟨ac0, ac1, ac2, ac3, ac4, ac5, ac6, af0, af1, af2, af3, af4, af5, af6⟩ := ((Blk.new w _ _).below hb).all7
        have HB2 : Hid (Below w.heap.size w w2) := (HB.out _).trans (hb.mono (HB.out _).size)
        clear hb
        go_wp2
        exact bodyPost_ret (v := lexV (⟨6, [], c'⟩, n + 2)) (by simp [results, Tryz.results74, go_sem, lexV, tokV, ac0, ac1, ac2, ac3, ac4, ac5, ac6, bs]) rfl ⟨by rw [HL'.out], by repeat (first | (refine Below.setCell ?_ (by simp) _) | exact HB2.out)⟩
      · rw [if_pos (Or.inr (M.ne_byte hq 39 rfl))] at HL
        have HL' : Hid (M.lexR (s.data.toList.drop a) = (⟨0, [], 0⟩, 0)) := HL
        have e2 : ((s[a + 1 + n].toNat : Int) != 39) = true := by simp only [bne, beq_eq_false_iff_ne.2 (show (s[a + 1 + n].toNat : Int) ≠ 39 by omega)]; rfl
        have d1 : decide ((s.size : Int) ≤ (a : Int) + 1 + n) = false := decide_eq_false (by omega)
        clear HL hq hn hn1
        go_enter Tryz.func74, Tryz.ntmps74
        go_wp2_with (go_at_call 98; fail)
        refine (HC'.out _).mono ?_
        rintro e w2 ⟨rfl, hb⟩
        obtain ⟨ac0, ac1, ac2, ac3, ac4, ac5, ac6, af0, af1, af2, af3, af4, af5, af6⟩ := ((Blk.new w _ _).below hb).all7
        have HB2 : Hid (Below w.heap.size w w2) := (HB.out _).trans (hb.mono (HB.out _).size)
        clear hb
        go_wp2
        exact bodyPost_ret (v := lexV (⟨0, [], 0⟩, 0)) (by simp [results, Tryz.results74, go_sem, lexV, tokV, ac0, ac1, ac2, ac3, ac4, ac5, ac6, bs]) rfl ⟨by rw [HL'.out], by repeat (first | (refine Below.setCell ?_ (by simp) _) | exact HB2.out)⟩
    · rw [show s.data.toList.drop (a + 1 + n) = [] from List.drop_eq_nil_of_le (by rw [← Lib.size_eq]; omega), if_pos (Or.inr (by rfl))] at HL
      have HL' : Hid (M.lexR (s.data.toList.drop a) = (⟨0, [], 0⟩, 0)) := HL
      have hge : (s.size : Int) ≤ (a : Int) + 1 + n := by omega
      clear HL hn hlt
      go_enter Tryz.func74, Tryz.ntmps74
      go_wp2_with (go_at_call 98; fail)
      refine (HC'.out _).mono ?_
      rintro e w2 ⟨rfl, hb⟩
      obtain ⟨ac0, ac1, ac2, ac3, ac4, ac5, ac6, af0, af1, af2, af3, af4, af5, af6⟩ := ((Blk.new w _ _).below hb).all7
      have HB2 : Hid (Below w.heap.size w w2) := (HB.out _).trans (hb.mono (HB.out _).size)
      clear hb
      go_wp2
      exact bodyPost_ret (v := lexV (⟨0, [], 0⟩, 0)) (by simp [results, Tryz.results74, go_sem, lexV, tokV, ac0, ac1, ac2, ac3, ac4, ac5, ac6, bs]) rfl ⟨by rw [HL'.out], by repeat (first | (refine Below.setCell ?_ (by simp) _) | exact HB2.out)⟩

theorem char34 (r : List UInt8) : M.charR 34 r = if 0 < M.noChar r then ((-1 : Int), M.noChar r) else if (M.character 34 r).1 = 0 then (0, 0) else (((M.character 34 r).2 : Nat), (M.character 34 r).1) := by
  unfold M.charR
  by_cases h : 0 < M.noChar r
  · rw [if_pos h, if_pos ⟨rfl, h⟩]
  · rw [if_neg h, if_neg (fun h' => h h'.2)]

set_option maxRecDepth 100000 in
set_option maxHeartbeats 8000000 in
theorem rQuoted34_c (s : ByteArray) (a : Nat) (hs : s.size ≤ 70000) (ha : a < s.size) (h34 : s[a].toNat = 34) (w : World) :
    Calls Tryz.prog 74 #[.string s, .int .i64 (a : Int)] w fun e w' => e = .returned (lexV (M.lexR (s.data.toList.drop a))) ∧ Below w.heap.size w w' := by
  obtain ⟨i0, hi, hz0, hz1, hz2⟩ := info_parts Tryz.info5
  have hlti : (a : Int) < s.size := by omega
  have hai : (a : Int) ≤ 69999 := by omega
  have HS : Hid (s.size ≤ 70000) := hs
  have hsi : (s.size : Int) ≤ 70000 := by omega
  have q39 : ((s[a].toNat : Int) == 39) = false := beq_eq_false_iff_ne.2 (by omega)
  have hcl : M.cls s[a] = 6 := by have := (M.cls_facts s[a]).2.2.2.2.2.2.1; rw [h34] at this; simpa using this.symm
  have HL : Hid (M.lexR (s.data.toList.drop a) = if (M.chars (s.data.toList.drop a)).1 = 0 then (⟨0, [], 0⟩, 0) else (⟨7, (M.chars (s.data.toList.drop a)).2, 0⟩, (M.chars (s.data.toList.drop a)).1)) := by
    show _ = _
    have := M.lexR_str s[a] (s.data.toList.drop (a + 1)) hcl
    rw [← drop_one s a ha] at this
    exact this
  have HP : Hid ([34].isPrefixOf (s.data.toList.drop a) = true) := by
    show _ = _
    rw [drop_one s a ha, M.pref1]; exact beq_iff_eq.2 (UInt8.toNat_inj.1 (by rw [h34]; rfl))
  have HB : Hid (∀ v : Array Value, Below w.heap.size w (w.alloc (.cells v 30))) := fun v => (Below.refl _ w).alloc (Nat.le_refl _) _
  have hlen : Hid ((s.data.toList.drop a).length = s.size - a) := by show _ = _; rw [List.length_drop, ← Lib.size_eq]
  clear h34 hcl hs
  go_enter Tryz.func74, Tryz.ntmps74
  go_wp2
  obtain ⟨W, hW⟩ : ∃ W, w.alloc (.cells #[.int .i64 0, .string ⟨#[]⟩, .int .i64 0, .int .i64 0, .int .i64 0, .int .i64 0, .bool false] 30) = W := ⟨_, rfl⟩
  have HBW : Hid (Below w.heap.size w W) := by rw [← hW]; exact HB.out _
  have HWs : Hid (W.heap.size = w.heap.size + 1) := by show _ = _; rw [← hW]; simp
  have HBk : Hid (Blk W w.heap.size #[.int .i64 0, .string ⟨#[]⟩, .int .i64 0, .int .i64 0, .int .i64 0, .int .i64 0, .bool false] 30) := by rw [← hW]; exact Blk.new w _ _
  rw [hW]
  clear hW
  go_loopw [8, 9] (fun tx iv wr => ∃ (k : Nat) (pre : List UInt8), a + k ≤ s.size ∧ pre.length ≤ k ∧ iv = .int .i64 ((a : Int) + k) ∧ Hid (ChsAt (s.data.toList.drop a) k pre) ∧ wr.ownsRow W.heap.size 5 1 tx pre.length (cellsL pre) ∧ Hid (Below W.heap.size W wr))
      (fun _ iv _ => s.size - (intOf iv).toNat)
  case atStart => exact ⟨1, [], by omega, by simp, by go_num, chsAt_start _ (by have := hlen.out; omega), World.ownsRow_nil _ _ _ _, Below.refl _ _⟩
  case round =>
    obtain ⟨k, pre, hk, hpk, rfl, hat, hown, hB⟩ := hrel
    have hki : (a : Int) + k ≤ s.size := by omega
    have hki2 : (a : Int) + k ≤ 70000 := by omega
    have hpi : (pre.length : Int) ≤ 70000 := by omega
    have HBk2 : Hid (Blk wr w.heap.size #[.int .i64 0, .string ⟨#[]⟩, .int .i64 0, .int .i64 0, .int .i64 0, .int .i64 0, .bool false] 30) := blk_belowQ HBk.out (by have := HWs.out; omega) hB.out
    have HBr : Hid (Below w.heap.size w wr) := HBW.out.trans (hB.out.mono HBW.out.size)
    by_cases hend : ∃ h : a + k < s.size, s[a + k].toNat = 34
    · obtain ⟨hlt, h34⟩ := hend
      have hlt' : (a : Int) + k < s.size := by omega
      have e34 : ((s[a + k].toNat : Int) == 34) = true := beq_iff_eq.2 (by omega)
      have hch := chsAt_end _ k pre HP.out hat.out (by rw [List.drop_drop, drop_one s (a + k) hlt, M.pref1]; exact beq_iff_eq.2 (UInt8.toNat_inj.1 (by rw [h34]; rfl)))
      have HL' : Hid (M.lexR (s.data.toList.drop a) = (⟨7, pre, 0⟩, k + 1)) := by
        show _ = _
        rw [HL.out, hch, if_neg (by simp)]
      have hcv := own_convert pre hown
      obtain ⟨ac0, ac1, ac2, ac3, ac4, ac5, ac6, af0, af1, af2, af3, af4, af5, af6⟩ := HBk2.out.all7
      clear h34 hch hown hk hpk
      go_wp2
      exact bodyPost_ret (v := .tuple #[tokV 7 (bs pre) 0 0 0 0 false, .int .i64 ((a : Int) + k + 1 - a)]) (by simp [results, Tryz.results74, go_sem, tokV, ac0, ac1, ac2, ac3, ac4, ac5, ac6]) rfl ⟨by rw [HL'.out, show (a : Int) + k + 1 - a = ((k + 1 : Nat) : Int) by omega]; rfl, by repeat (first | (refine Below.setCell ?_ (by simp) _) | exact HBr.out)⟩
    · have HC : Hid (∀ w : World, Calls Tryz.prog 98 #[.string s, .int .i64 ((a : Int) + k), .int .u8 34] w fun e w' => e = .returned (charV (M.charR 34 (s.data.toList.drop (a + k)))) ∧ Below w.heap.size w w') := fun w => by
        have := rChar34_c s (a + k) HS.out hk w
        rw [show ((a + k : Nat) : Int) = (a : Int) + k by omega] at this
        exact this
      by_cases hlt : a + k < s.size
      · have hlt' : (a : Int) + k < s.size := by omega
        have h34 : ¬ s[a + k].toNat = 34 := fun h => hend ⟨hlt, h⟩
        have e34 : ((s[a + k].toNat : Int) == 34) = false := beq_eq_false_iff_ne.2 (by omega)
        have hne : [34].isPrefixOf ((s.data.toList.drop a).drop k) = false := by
          rw [List.drop_drop, drop_one s (a + k) hlt, M.pref1]; exact M.ne_byte h34 34 rfl
        have hc34 := char34 (s.data.toList.drop (a + k))
        have hnl := M.noChar_le (s.data.toList.drop (a + k))
        have hcl := M.character_le 34 (s.data.toList.drop (a + k))
        have hcv := M.character_val 34 (s.data.toList.drop (a + k))
        rw [List.length_drop, ← Lib.size_eq] at hnl hcl
        clear hend h34
        by_cases hn : 0 < M.noChar (s.data.toList.drop (a + k))
        · rw [if_pos hn] at hc34
          have hat' := chsAt_no _ k pre hat.out hne (by rw [List.drop_drop]; exact hn)
          rw [List.drop_drop] at hat'
          rw [hc34] at HC
          obtain ⟨n, hnn⟩ : ∃ n, M.noChar (s.data.toList.drop (a + k)) = n := ⟨_, rfl⟩
          rw [hnn] at HC hn hat' hnl
          have HAT : Hid (ChsAt (s.data.toList.drop a) (k + n) pre) := hat'
          have HC' : Hid (∀ w : World, Calls Tryz.prog 98 #[.string s, .int .i64 ((a : Int) + k), .int .u8 34] w fun e w' => e = .returned (.tuple #[.int .i64 (-1), .int .i64 (n : Int)]) ∧ Below w.heap.size w w') := HC.out
          have en0 : ((n : Int) == 0) = false := beq_eq_false_iff_ne.2 (by omega)
          have hni : (a : Int) + k + n ≤ 70000 := by omega
          have HNN : Hid (0 < n ∧ n ≤ s.size - (a + k)) := ⟨hn, hnl⟩
          clear hc34 hcl hcv hne hnn hn hnl hat' HC
          go_wp2_with (go_at_call 98; refine (HC'.out _).mono ?_; rintro e w3 ⟨rfl, hb3⟩; have hown3 := owns_below hown hb3; have hB3 : Hid (Below W.heap.size W w3) := hB.out.trans (hb3.mono hB.out.size))
          go_roundw
          case rel => exact ⟨k + n, pre, by have := HNN.out; omega, by omega, by go_num, HAT, hown3, hB3⟩
          case measure => have := HNN.out; simp [intOf]; omega
        · rw [if_neg hn] at hc34
          have hn0 : M.noChar (s.data.toList.drop (a + k)) = 0 := by omega
          by_cases hc0 : (M.character 34 (s.data.toList.drop (a + k))).1 = 0
          · have hch := chsAt_bad _ k pre HP.out hat.out hne (by rw [List.drop_drop]; exact hn0) (by rw [List.drop_drop]; exact hc0)
            rw [if_pos hc0] at hc34
            rw [hc34] at HC
            clear hc34 hcl hcv hne hn hnl hn0 hc0 hown hat
            have HL' : Hid (M.lexR (s.data.toList.drop a) = (⟨0, [], 0⟩, 0)) := by
              show _ = _
              rw [HL.out, hch, if_pos rfl]
            have HC' : Hid (∀ w : World, Calls Tryz.prog 98 #[.string s, .int .i64 ((a : Int) + k), .int .u8 34] w fun e w' => e = .returned (.tuple #[.int .i64 0, .int .i64 0]) ∧ Below w.heap.size w w') := HC.out
            clear hch HC
            go_wp2_with (go_at_call 98; fail)
            refine (HC'.out _).mono ?_
            rintro e w3 ⟨rfl, hb3⟩
            obtain ⟨ac0, ac1, ac2, ac3, ac4, ac5, ac6, af0, af1, af2, af3, af4, af5, af6⟩ := (HBk2.out.below hb3).all7
            have HB3 : Hid (Below w.heap.size w w3) := HBr.out.trans (hb3.mono HBr.out.size)
            clear hb3
            go_wp2
            exact bodyPost_ret (v := lexV (⟨0, [], 0⟩, 0)) (by simp [results, Tryz.results74, go_sem, lexV, tokV, ac0, ac1, ac2, ac3, ac4, ac5, ac6, bs]) rfl ⟨by rw [HL'.out], by repeat (first | (refine Below.setCell ?_ (by simp) _) | exact HB3.out)⟩
          · have hat' := chsAt_yes _ k pre hat.out hne (by rw [List.drop_drop]; exact hn0) (by rw [List.drop_drop]; exact hc0)
            rw [List.drop_drop] at hat'
            rw [if_neg hc0] at hc34
            rw [hc34] at HC
            obtain ⟨⟨n, c⟩, hcd⟩ : ∃ r, M.character 34 (s.data.toList.drop (a + k)) = r := ⟨_, rfl⟩
            rw [hcd] at HC hc0 hcl hcv hat'
            simp only at hc0 hcl hcv hat'
            have HAT : Hid (ChsAt (s.data.toList.drop a) (k + n) (pre ++ [UInt8.ofNat c])) := hat'
            have HC' : Hid (∀ w : World, Calls Tryz.prog 98 #[.string s, .int .i64 ((a : Int) + k), .int .u8 34] w fun e w' => e = .returned (.tuple #[.int .i64 (c : Int), .int .i64 (n : Int)]) ∧ Below w.heap.size w w') := HC.out
            have en0 : ((n : Int) == 0) = false := beq_eq_false_iff_ne.2 (by omega)
            have hni : (a : Int) + k + n ≤ 70000 := by omega
            have hci : (c : Int) ≤ 255 := by omega
            have hof : Hid ((UInt8.ofNat c).toNat = c) := by show _ = _; simp; omega
            have HNN : Hid (0 < n ∧ n ≤ s.size - (a + k)) := ⟨by omega, hcl⟩
            have HPK : Hid (pre.length ≤ 70000 ∧ pre.length ≤ k) := ⟨by omega, hpk⟩
            clear hc34 hcl hcv hne hnl hat' HC hc0 hcd hn hn0
            go_wp2_with (first
              | (go_at_call 98; refine (HC'.out _).mono ?_; rintro e w3 ⟨rfl, hb3⟩; have hown3 := owns_below hown hb3; have hB3 := hB.out.trans (hb3.mono hB.out.size))
              | (at_builtin; refine wpList_append_own _ rfl _ _ 61 rfl W.heap.size 5 i0 (.int .u8 0) 1 1 Tryz.underlying61 hi hz0 hz1 hz2 rfl (by decide) _ _ _ rfl (hown3.alloc _) ⟨w3.heap.size, 0, none⟩ 1 1 [.int .u8 (c : Int)] rfl rfl (cell_one_new _ _ _) (by simp [Value.oneCell']) (by have := HPK.out; unfold maxLen; omega) (by omega) (by have := hB3.size; simp; omega) ?_; intro o' w4 hown4 hgrow4 _))
            go_roundw
            case rel =>
              refine ⟨k + n, pre ++ [UInt8.ofNat c], by have := HNN.out; omega, by have := HPK.out; have := HNN.out; simp; omega, by go_num, HAT, ?_, ?_⟩
              · have : cellsL (pre ++ [UInt8.ofNat c]) = cellsL pre ++ [.int .u8 (c : Int)] := by simp only [cellsL, List.map_append, List.map_cons, List.map_nil, hof.out]
                rw [this]
                simpa using hown4
              · exact (hB3.alloc hB3.size _).grown hgrow4 (by have := hB3.size; simp; omega) (fun j e => (hown3.lt j e).1)
            case measure => have := HNN.out; simp [intOf]; omega
      · have hge : (s.size : Int) ≤ (a : Int) + k := by omega
        have hnil : s.data.toList.drop (a + k) = [] := List.drop_eq_nil_of_le (by rw [← Lib.size_eq]; omega)
        rw [hnil, M.charR_nil] at HC
        have hch := chsAt_bad _ k pre HP.out hat.out (by rw [List.drop_drop, hnil]; rfl) (by rw [List.drop_drop, hnil]; rfl) (by rw [List.drop_drop, hnil]; rfl)
        clear hnil hlt hend hown hat
        have HL' : Hid (M.lexR (s.data.toList.drop a) = (⟨0, [], 0⟩, 0)) := by
          show _ = _
          rw [HL.out, hch, if_pos rfl]
        have HC' : Hid (∀ w : World, Calls Tryz.prog 98 #[.string s, .int .i64 ((a : Int) + k), .int .u8 34] w fun e w' => e = .returned (.tuple #[.int .i64 0, .int .i64 0]) ∧ Below w.heap.size w w') := HC.out
        clear hch HC
        go_wp2_with (go_at_call 98; fail)
        refine (HC'.out _).mono ?_
        rintro e w3 ⟨rfl, hb3⟩
        obtain ⟨ac0, ac1, ac2, ac3, ac4, ac5, ac6, af0, af1, af2, af3, af4, af5, af6⟩ := (HBk2.out.below hb3).all7
        have HB3 : Hid (Below w.heap.size w w3) := HBr.out.trans (hb3.mono HBr.out.size)
        clear hb3
        go_wp2
        exact bodyPost_ret (v := lexV (⟨0, [], 0⟩, 0)) (by simp [results, Tryz.results74, go_sem, lexV, tokV, ac0, ac1, ac2, ac3, ac4, ac5, ac6, bs]) rfl ⟨by rw [HL'.out], by repeat (first | (refine Below.setCell ?_ (by simp) _) | exact HB3.out)⟩

end Go.Proofs.YtpidccdgkkcljaaGreatDoor
