/-
  The document's telling of characters and tokens, by contracts.
-/
import Derived.Test.YtpidccdgkkcljaaGreatDoorCall1
import Derived.Test.YtpidccdgkkcljaaGreatDoorCall0
namespace Go.Proofs.YtpidccdgkkcljaaGreatDoor
open Go.RowKit Go.Shelf Go.Maps
set_option linter.unusedVariables false

theorem u8_of (c : UInt8) : UInt8.ofNat c.toNat = c := by simp
theorem bs_lit (l : List UInt8) : (ByteArray.mk l.toArray) = bs l := rfl

set_option maxRecDepth 100000 in
set_option maxHeartbeats 4000000 in
theorem rShown39_c (c : UInt8) (w : World) :
    Calls Tryz.prog 44 #[.int .u8 (c.toNat : Int), .int .u8 39] w fun e w' => e = .returned (.string (bs (chB 39 [] c))) ∧ Below w.heap.size w w' := by
  have HB : Hid (∀ o : Obj, Below w.heap.size w (w.alloc o)) := fun o => (Below.refl _ w).alloc (Nat.le_refl _) _
  have hlt : c.toNat < 256 := UInt8.toNat_lt c
  have hcv := conv_blk (w.alloc (.cells #[.int .u8 (c.toNat : Int)] 5)) w.heap.size c.toNat (by omega) (Blk.new w _ _)
  rw [u8_of] at hcv
  have HR : Hid (chB 39 [] c = if c = 39 ∨ c = 92 then [92, c] else if M.plainB c = true then [c] else 92 :: (Lib.itoa (c.toNat : Int) ++ [])) := rfl
  have HD : Hid (Calls Tryz.prog 43 #[.int .i64 (c.toNat : Int)] w fun e w' => e = .returned (.string (bs (Lib.itoa (c.toNat : Int)))) ∧ Below w.heap.size w w') := by
    have := rDigits_c c.toNat (by omega) w
    rw [← Lib.itoa_nonneg] at this
    exact this
  have ha1 : ∀ W : World, (Op.stringOp .add (ByteArray.mk #[92]) (bs [c])).run Tryz.prog W = .ok (.string (bs [92, c])) W := by
    intro W
    have h := run_string_add_sum (P := Tryz.prog) W (bs [92]) (bs [c]) (by rw [bs_size, bs_size]; simp)
    rw [bs_app] at h
    exact h
  by_cases h1 : c = 39 ∨ c = 92
  · rw [if_pos h1] at HR
    by_cases h0 : c.toNat = 39
    · clear HD h1
      generalize c.toNat = b at *
      have e1 : ((b : Int) == 39) = true := beq_iff_eq.2 (by omega)
      clear hlt h0
      go_enter Tryz.func44, Tryz.ntmps44
      go_wp2
      go_ret
      exact ⟨by rw [HR.out]; rfl, HB.out _⟩
    · have h92 : c.toNat = 92 := by
        rcases h1 with h1 | h1
        · exact absurd (by rw [h1]; rfl) h0
        · rw [h1]; rfl
      clear HD h1
      generalize c.toNat = b at *
      have e1 : ((b : Int) == 39) = false := beq_eq_false_iff_ne.2 (by omega)
      have e2 : ((b : Int) == 92) = true := beq_iff_eq.2 (by omega)
      clear hlt h0 h92
      go_enter Tryz.func44, Tryz.ntmps44
      go_wp2
      go_ret
      exact ⟨by rw [HR.out]; rfl, HB.out _⟩
  · rw [if_neg h1] at HR
    have n1 : c.toNat ≠ 39 := fun h => h1 (.inl (UInt8.toNat_inj.1 h))
    have n2 : c.toNat ≠ 92 := fun h => h1 (.inr (UInt8.toNat_inj.1 h))
    by_cases h2 : M.plainB c = true
    · rw [if_pos h2] at HR
      unfold M.plainB at h2
      have h3 := of_decide_eq_true h2
      clear h2 HD h1
      generalize c.toNat = b at *
      have e1 : ((b : Int) == 39) = false := beq_eq_false_iff_ne.2 (by omega)
      have e2 : ((b : Int) == 92) = false := beq_eq_false_iff_ne.2 (by omega)
      have g1 : (32 : Int) ≤ b := by omega
      have g2 : (b : Int) ≤ 126 := by omega
      clear h3 n1 n2 hlt
      go_enter Tryz.func44, Tryz.ntmps44
      go_wp2
      go_ret
      exact ⟨by rw [HR.out]; rfl, HB.out _⟩
    · rw [if_neg h2] at HR
      unfold M.plainB at h2
      have h3 : ¬ (32 ≤ c.toNat ∧ c.toNat ≤ 126) := fun h => h2 (decide_eq_true h)
      clear h2 h1 hcv
      have hdl : (Lib.itoa (c.toNat : Int)).length ≤ 3 := itoa_len c
      generalize Lib.itoa (c.toNat : Int) = dg at *
      have ha2 : ∀ W : World, (Op.stringOp .add (ByteArray.mk #[92]) (bs dg)).run Tryz.prog W = .ok (.string (bs (92 :: dg))) W := by
        intro W
        have h := run_string_add_sum (P := Tryz.prog) W (bs [92]) (bs dg) (by rw [bs_size, bs_size]; simp; omega)
        rw [bs_app] at h
        exact h
      have ha3 : ∀ W : World, (Op.stringOp .add (bs (92 :: dg)) (ByteArray.mk #[92, 38])).run Tryz.prog W = .ok (.string (bs (92 :: (dg ++ [92, 38])))) W := by
        intro W
        have h := run_string_add_sum (P := Tryz.prog) W (bs (92 :: dg)) (bs [92, 38]) (by rw [bs_size, bs_size]; simp; omega)
        rw [bs_app] at h
        exact h
      clear hdl ha1
      generalize c.toNat = b at *
      have e1 : ((b : Int) == 39) = false := beq_eq_false_iff_ne.2 (by omega)
      have e2 : ((b : Int) == 92) = false := beq_eq_false_iff_ne.2 (by omega)
      have hb0 : (b : Int) ≤ 255 := by omega
      rcases Nat.lt_or_ge b 32 with g | g
      · have g1 : (b : Int) < 32 := by omega
        clear h3 n1 n2 hlt g
        go_enter Tryz.func44, Tryz.ntmps44
        go_wp2_with (go_at_call 43; fail)
        refine HD.out.mono ?_
        rintro e w1 ⟨rfl, hb1⟩
        have HB1 : Hid (Below w.heap.size w w1) := hb1
        clear hb1
        go_wp2
        go_ret
        exact ⟨by rw [HR.out]; first | rfl | (rw [List.append_nil]; rfl), HB1.out⟩
      · have g1 : (32 : Int) ≤ b := by omega
        have g2 : (126 : Int) < b := by omega
        clear h3 n1 n2 hlt g
        go_enter Tryz.func44, Tryz.ntmps44
        go_wp2_with (go_at_call 43; fail)
        refine HD.out.mono ?_
        rintro e w1 ⟨rfl, hb1⟩
        have HB1 : Hid (Below w.heap.size w w1) := hb1
        clear hb1
        go_wp2
        go_ret
        exact ⟨by rw [HR.out]; first | rfl | (rw [List.append_nil]; rfl), HB1.out⟩

set_option maxRecDepth 100000 in
set_option maxHeartbeats 4000000 in
theorem rShown34_c (c : UInt8) (w : World) :
    Calls Tryz.prog 44 #[.int .u8 (c.toNat : Int), .int .u8 34] w fun e w' => e = .returned (.string (bs (chB 34 [92, 38] c))) ∧ Below w.heap.size w w' := by
  have HB : Hid (∀ o : Obj, Below w.heap.size w (w.alloc o)) := fun o => (Below.refl _ w).alloc (Nat.le_refl _) _
  have hlt : c.toNat < 256 := UInt8.toNat_lt c
  have hcv := conv_blk (w.alloc (.cells #[.int .u8 (c.toNat : Int)] 5)) w.heap.size c.toNat (by omega) (Blk.new w _ _)
  rw [u8_of] at hcv
  have HR : Hid (chB 34 [92, 38] c = if c = 34 ∨ c = 92 then [92, c] else if M.plainB c = true then [c] else 92 :: (Lib.itoa (c.toNat : Int) ++ [92, 38])) := rfl
  have HD : Hid (Calls Tryz.prog 43 #[.int .i64 (c.toNat : Int)] w fun e w' => e = .returned (.string (bs (Lib.itoa (c.toNat : Int)))) ∧ Below w.heap.size w w') := by
    have := rDigits_c c.toNat (by omega) w
    rw [← Lib.itoa_nonneg] at this
    exact this
  have ha1 : ∀ W : World, (Op.stringOp .add (ByteArray.mk #[92]) (bs [c])).run Tryz.prog W = .ok (.string (bs [92, c])) W := by
    intro W
    have h := run_string_add_sum (P := Tryz.prog) W (bs [92]) (bs [c]) (by rw [bs_size, bs_size]; simp)
    rw [bs_app] at h
    exact h
  by_cases h1 : c = 34 ∨ c = 92
  · rw [if_pos h1] at HR
    by_cases h0 : c.toNat = 34
    · clear HD h1
      generalize c.toNat = b at *
      have e1 : ((b : Int) == 34) = true := beq_iff_eq.2 (by omega)
      clear hlt h0
      go_enter Tryz.func44, Tryz.ntmps44
      go_wp2
      go_ret
      exact ⟨by rw [HR.out]; rfl, HB.out _⟩
    · have h92 : c.toNat = 92 := by
        rcases h1 with h1 | h1
        · exact absurd (by rw [h1]; rfl) h0
        · rw [h1]; rfl
      clear HD h1
      generalize c.toNat = b at *
      have e1 : ((b : Int) == 34) = false := beq_eq_false_iff_ne.2 (by omega)
      have e2 : ((b : Int) == 92) = true := beq_iff_eq.2 (by omega)
      clear hlt h0 h92
      go_enter Tryz.func44, Tryz.ntmps44
      go_wp2
      go_ret
      exact ⟨by rw [HR.out]; rfl, HB.out _⟩
  · rw [if_neg h1] at HR
    have n1 : c.toNat ≠ 34 := fun h => h1 (.inl (UInt8.toNat_inj.1 h))
    have n2 : c.toNat ≠ 92 := fun h => h1 (.inr (UInt8.toNat_inj.1 h))
    by_cases h2 : M.plainB c = true
    · rw [if_pos h2] at HR
      unfold M.plainB at h2
      have h3 := of_decide_eq_true h2
      clear h2 HD h1
      generalize c.toNat = b at *
      have e1 : ((b : Int) == 34) = false := beq_eq_false_iff_ne.2 (by omega)
      have e2 : ((b : Int) == 92) = false := beq_eq_false_iff_ne.2 (by omega)
      have g1 : (32 : Int) ≤ b := by omega
      have g2 : (b : Int) ≤ 126 := by omega
      clear h3 n1 n2 hlt
      go_enter Tryz.func44, Tryz.ntmps44
      go_wp2
      go_ret
      exact ⟨by rw [HR.out]; rfl, HB.out _⟩
    · rw [if_neg h2] at HR
      unfold M.plainB at h2
      have h3 : ¬ (32 ≤ c.toNat ∧ c.toNat ≤ 126) := fun h => h2 (decide_eq_true h)
      clear h2 h1 hcv
      have hdl : (Lib.itoa (c.toNat : Int)).length ≤ 3 := itoa_len c
      generalize Lib.itoa (c.toNat : Int) = dg at *
      have ha2 : ∀ W : World, (Op.stringOp .add (ByteArray.mk #[92]) (bs dg)).run Tryz.prog W = .ok (.string (bs (92 :: dg))) W := by
        intro W
        have h := run_string_add_sum (P := Tryz.prog) W (bs [92]) (bs dg) (by rw [bs_size, bs_size]; simp; omega)
        rw [bs_app] at h
        exact h
      have ha3 : ∀ W : World, (Op.stringOp .add (bs (92 :: dg)) (ByteArray.mk #[92, 38])).run Tryz.prog W = .ok (.string (bs (92 :: (dg ++ [92, 38])))) W := by
        intro W
        have h := run_string_add_sum (P := Tryz.prog) W (bs (92 :: dg)) (bs [92, 38]) (by rw [bs_size, bs_size]; simp; omega)
        rw [bs_app] at h
        exact h
      clear hdl ha1
      generalize c.toNat = b at *
      have e1 : ((b : Int) == 34) = false := beq_eq_false_iff_ne.2 (by omega)
      have e2 : ((b : Int) == 92) = false := beq_eq_false_iff_ne.2 (by omega)
      have hb0 : (b : Int) ≤ 255 := by omega
      rcases Nat.lt_or_ge b 32 with g | g
      · have g1 : (b : Int) < 32 := by omega
        clear h3 n1 n2 hlt g
        go_enter Tryz.func44, Tryz.ntmps44
        go_wp2_with (go_at_call 43; fail)
        refine HD.out.mono ?_
        rintro e w1 ⟨rfl, hb1⟩
        have HB1 : Hid (Below w.heap.size w w1) := hb1
        clear hb1
        go_wp2
        go_ret
        exact ⟨by rw [HR.out]; first | rfl | (rw [List.append_nil]; rfl), HB1.out⟩
      · have g1 : (32 : Int) ≤ b := by omega
        have g2 : (126 : Int) < b := by omega
        clear h3 n1 n2 hlt g
        go_enter Tryz.func44, Tryz.ntmps44
        go_wp2_with (go_at_call 43; fail)
        refine HD.out.mono ?_
        rintro e w1 ⟨rfl, hb1⟩
        have HB1 : Hid (Below w.heap.size w w1) := hb1
        clear hb1
        go_wp2
        go_ret
        exact ⟨by rw [HR.out]; first | rfl | (rw [List.append_nil]; rfl), HB1.out⟩

end Go.Proofs.YtpidccdgkkcljaaGreatDoor
