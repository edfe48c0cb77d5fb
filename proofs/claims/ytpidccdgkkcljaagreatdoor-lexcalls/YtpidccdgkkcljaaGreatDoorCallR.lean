/-
  The document's telling of tokens, by contracts.
-/
import Derived.Test.YtpidccdgkkcljaaGreatDoorBlk
import Derived.Deep.RegionWith
import Derived.Lib.ItoaNum
import Derived.Test.YtpidccdgkkcljaaGreatDoorCallT
import Derived.Lib.AppendStr
namespace Go.Proofs.YtpidccdgkkcljaaGreatDoor
open Go.RowKit Go.Shelf Go.Maps
set_option linter.unusedVariables false

theorem conv_blk (W : World) (B n : Nat) (hn : n ≤ 255) (h : Blk W B #[.int .u8 (n : Int)] 5) : (convert 61 9 (.slice (some ⟨B, 0, none⟩) 1 1)).run Tryz.prog W = .ok (.string (bs [UInt8.ofNat n])) W := by
  refine run_convert_bytes_back _ 61 9 5 ⟨B, 0, none⟩ 1 [UInt8.ofNat n] Tryz.underlying61 Tryz.underlying5 Tryz.underlying9 ?_
  intro j hj
  have hj0 : j = 0 := by simpa using hj
  subst hj0
  have := h.cell 0 _ rfl
  have e : ((UInt8.ofNat n).toNat : Int) = (n : Int) := by rw [UInt8.toNat_ofNat']; omega
  show _ = some (Value.int .u8 ((UInt8.ofNat n).toNat : Int))
  rw [e]
  exact this
theorem decD_len : ∀ (k n : Nat), n < 10 ^ (k + 1) → (Lib.decDigits n).length ≤ k + 1
  | 0, n, h => by rw [Lib.decDigits, dif_pos (by omega)]; simp
  | k + 1, n, h => by
    rw [Lib.decDigits]
    split
    · simp
    · have := decD_len k (n / 10) (by rw [Nat.pow_succ] at h; omega)
      simp only [List.length_append, List.length_singleton]
      omega
theorem bel_d {w w1 : World} (h : Below w.drew.heap.size w.drew w1) : Hid (Below w.heap.size w w1) := (Below.refl _ w).drew.trans h
theorem bel_ad {w w1 : World} {o : Obj} (h : Below (w.alloc o).drew.heap.size (w.alloc o).drew w1) : Hid (Below w.heap.size w w1) := ((Below.refl _ w).alloc (Nat.le_refl _) _).drew.trans (h.mono (by simp))
theorem bel_da {w w1 : World} {o : Obj} (h : Below (w.drew.alloc o).heap.size (w.drew.alloc o) w1) : Hid (Below w.heap.size w w1) := ((Below.refl _ w).drew.alloc (Nat.le_refl _) _).trans (h.mono (by simp))
theorem blk_ad {w w1 : World} {vs : Array Value} {T : TypeId} (h : Below (w.alloc (.cells vs T)).drew.heap.size (w.alloc (.cells vs T)).drew w1) : Blk w1 w.heap.size vs T := (Blk.new w vs T).drew.below h
theorem blk_da {w w1 : World} {vs : Array Value} {T : TypeId} (h : Below (w.drew.alloc (.cells vs T)).heap.size (w.drew.alloc (.cells vs T)) w1) : Blk w1 w.heap.size vs T := (Blk.new w.drew vs T).below h
theorem bs_app (a b : List UInt8) : bs a ++ bs b = bs (a ++ b) := by
  unfold bs
  apply ByteArray.ext
  simp [ByteArray.data_append]

set_option maxRecDepth 100000 in
set_option maxHeartbeats 4000000 in
theorem rDigits_c : ∀ (n : Nat), n ≤ 9223372036854775807 → ∀ w : World,
    Calls Tryz.prog 43 #[.int .i64 (n : Int)] w fun e w' => e = .returned (.string (bs (Lib.decDigits n))) ∧ Below w.heap.size w w' := by
  intro n
  induction n using Nat.strongRecOn with
  | ind n ih =>
    intro hn w
    have hdep : Tryz.prog.follows Departure.mixedOrders = true := by kernel_rfl
    have HB : Hid (∀ o : Obj, Below w.heap.size w (w.alloc o)) := fun o => (Below.refl _ w).alloc (Nat.le_refl _) _
    by_cases h : n < 10
    · have hi : (n : Int) < 10 := by omega
      have HD : Hid (Lib.decDigits n = [UInt8.ofNat (48 + n)]) := Lib.decDigits_one h
      have hcv := conv_blk (w.alloc (.cells #[.int .u8 ((48 + n : Nat) : Int)] 5)) w.heap.size (48 + n) (by omega) (Blk.new w _ _)
      rw [show ((48 + n : Nat) : Int) = 48 + (n : Int) by omega] at hcv
      generalize UInt8.ofNat (48 + n) = dc at hcv HD
      clear ih hn h
      go_enter Tryz.func43, Tryz.ntmps43
      go_wp2
      go_ret
      exact ⟨by rw [HD.out]; rfl, HB.out _⟩
    · have hi : (10 : Int) ≤ n := by omega
      obtain ⟨q, hq⟩ : ∃ q, n / 10 = q := ⟨_, rfl⟩
      obtain ⟨m, hm⟩ : ∃ m, n % 10 = m := ⟨_, rfl⟩
      have hqi : (n : Int) / 10 = (q : Int) := by omega
      have hmi : (n : Int).tmod 10 = (m : Int) := by rw [Int.tmod_eq_emod_of_nonneg (by omega)]; omega
      have hw1 : IntKind.i64.wrap (q : Int) = (q : Int) := by rw [IntKind.wrap_i64]; omega
      have hw2 : IntKind.i64.wrap (48 + (m : Int)) = 48 + (m : Int) := by rw [IntKind.wrap_i64]; omega
      have hw3 : IntKind.u8.wrap (48 + (m : Int)) = 48 + (m : Int) := by rw [IntKind.wrap_u8]; omega
      have hm9 : (m : Int) ≤ 9 := by omega
      have HI : Hid (∀ w : World, Calls Tryz.prog 43 #[.int .i64 (q : Int)] w fun e w' => e = .returned (.string (bs (Lib.decDigits q))) ∧ Below w.heap.size w w') := fun w => ih q (by omega) (by omega) w
      have HD : Hid (Lib.decDigits n = Lib.decDigits q ++ [UInt8.ofNat (48 + m)]) := by
        show _ = _
        rw [Lib.decDigits, dif_neg h, hm, hq]
      have HCV : Hid (∀ (W : World) (B : Nat), Blk W B #[.int .u8 (48 + (m : Int))] 5 → (convert 61 9 (.slice (some ⟨B, 0, none⟩) 1 1)).run Tryz.prog W = .ok (.string (bs [UInt8.ofNat (48 + m)])) W) := fun W B hb => conv_blk W B (48 + m) (by omega) (by rw [show ((48 + m : Nat) : Int) = 48 + (m : Int) by omega]; exact hb)
      generalize UInt8.ofNat (48 + m) = dc at HCV HD
      have HQL : (Lib.decDigits q).length ≤ 20 := decD_len 19 q (by omega)
      generalize Lib.decDigits q = dq at HI HD HQL
      have hadd : ∀ W : World, (Op.stringOp .add (bs dq) (bs [dc])).run Tryz.prog W = .ok (.string (bs (dq ++ [dc]))) W := by
        intro W
        rw [run_string_add_sum W _ _ (by rw [bs_size, bs_size]; simp; omega), bs_app]
      clear HQL
      have hcA : ∀ W : World, (convert 61 9 (.slice (some ⟨W.heap.size, 0, none⟩) 1 1)).run Tryz.prog (W.alloc (.cells #[.int .u8 (48 + (m : Int))] 5)) = .ok (.string (bs [dc])) (W.alloc (.cells #[.int .u8 (48 + (m : Int))] 5)) := fun W => HCV.out _ _ (Blk.new W _ _)
      have hcB : ∀ W : World, (convert 61 9 (.slice (some ⟨W.heap.size, 0, none⟩) 1 1)).run Tryz.prog (W.alloc (.cells #[.int .u8 (48 + (m : Int))] 5)).drew = .ok (.string (bs [dc])) (W.alloc (.cells #[.int .u8 (48 + (m : Int))] 5)).drew := fun W => HCV.out _ _ (Blk.new W _ _).drew
      clear ih hn h hm hq
      go_enter Tryz.func43, Tryz.ntmps43
      go_wp2
      go_region_with
        (first
          | (go_at_call 43; with_reducible refine (HI.out _).mono ?_; rintro e w1 ⟨rfl, hb1⟩; (first
            | (have HB2 : Hid (Below w.heap.size w w1) := (by with_reducible exact bel_d hb1); clear hb1)
            | (have HB2 : Hid (Below w.heap.size w w1) := (by with_reducible exact bel_ad hb1); have hc4 := HCV.out w1 w.heap.size (by with_reducible exact blk_ad hb1); clear hb1)
            | (have HB2 : Hid (Below w.heap.size w w1) := (by with_reducible exact bel_da hb1); have hc4 := HCV.out w1 w.heap.size (by with_reducible exact blk_da hb1); clear hb1)
            | skip)))
      all_goals go_wp2
      all_goals go_ret
      all_goals exact ⟨by rw [HD.out]; rfl, by first | exact HB2.out | exact HB2.out.alloc HB2.out.size _ | exact (HB2.out.alloc HB2.out.size _).drew⟩


theorem u8_of (c : UInt8) : UInt8.ofNat c.toNat = c := by simp
theorem bs_lit (l : List UInt8) : (ByteArray.mk l.toArray) = bs l := rfl

set_option maxRecDepth 100000 in
set_option maxHeartbeats 4000000 in
theorem rShown39_c (c : UInt8) (w : World) :
    Calls Tryz.prog 44 #[.int .u8 (c.toNat : Int), .int .u8 39] w fun e w' => e = .returned (.string (bs (chB 39 [] c))) ∧ Below w.heap.size w w' := by
  have HB : Hid (∀ o : Obj, Below w.heap.size w (w.alloc o)) := fun o => (Below.refl _ w).alloc (Nat.le_refl _) _
  have hlt : c.toNat < 256 := UInt8.toNat_lt c
  have hcv := conv_blk (w.alloc (.cells #[.int .u8 (c.toNat : Int)] 5)) w.heap.size c.toNat (by omega) (Blk.new w _ _)
  rw [u8_of] at hcv
  have HR : Hid (chB 39 [] c = if c = 39 ∨ c = 92 then [92, c] else if M.plainB c = true then [c] else 92 :: (Lib.itoa (c.toNat : Int) ++ [])) := rfl
  have HD : Hid (Calls Tryz.prog 43 #[.int .i64 (c.toNat : Int)] w fun e w' => e = .returned (.string (bs (Lib.itoa (c.toNat : Int)))) ∧ Below w.heap.size w w') := by
    have := rDigits_c c.toNat (by omega) w
    rw [← Lib.itoa_nonneg] at this
    exact this
  have ha1 : ∀ W : World, (Op.stringOp .add (ByteArray.mk #[92]) (bs [c])).run Tryz.prog W = .ok (.string (bs [92, c])) W := by
    intro W
    have h := run_string_add_sum (P := Tryz.prog) W (bs [92]) (bs [c]) (by rw [bs_size, bs_size]; simp)
    rw [bs_app] at h
    exact h
  by_cases h1 : c = 39 ∨ c = 92
  · rw [if_pos h1] at HR
    by_cases h0 : c.toNat = 39
    · clear HD h1
      generalize c.toNat = b at *
      have e1 : ((b : Int) == 39) = true := beq_iff_eq.2 (by omega)
      clear hlt h0
      go_enter Tryz.func44, Tryz.ntmps44
      go_wp2
      go_ret
      exact ⟨by rw [HR.out]; rfl, HB.out _⟩
    · have h92 : c.toNat = 92 := by
        rcases h1 with h1 | h1
        · exact absurd (by rw [h1]; rfl) h0
        · rw [h1]; rfl
      clear HD h1
      generalize c.toNat = b at *
      have e1 : ((b : Int) == 39) = false := beq_eq_false_iff_ne.2 (by omega)
      have e2 : ((b : Int) == 92) = true := beq_iff_eq.2 (by omega)
      clear hlt h0 h92
      go_enter Tryz.func44, Tryz.ntmps44
      go_wp2
      go_ret
      exact ⟨by rw [HR.out]; rfl, HB.out _⟩
  · rw [if_neg h1] at HR
    have n1 : c.toNat ≠ 39 := fun h => h1 (.inl (UInt8.toNat_inj.1 h))
    have n2 : c.toNat ≠ 92 := fun h => h1 (.inr (UInt8.toNat_inj.1 h))
    by_cases h2 : M.plainB c = true
    · rw [if_pos h2] at HR
      unfold M.plainB at h2
      have h3 := of_decide_eq_true h2
      clear h2 HD h1
      generalize c.toNat = b at *
      have e1 : ((b : Int) == 39) = false := beq_eq_false_iff_ne.2 (by omega)
      have e2 : ((b : Int) == 92) = false := beq_eq_false_iff_ne.2 (by omega)
      have g1 : (32 : Int) ≤ b := by omega
      have g2 : (b : Int) ≤ 126 := by omega
      clear h3 n1 n2 hlt
      go_enter Tryz.func44, Tryz.ntmps44
      go_wp2
      go_ret
      exact ⟨by rw [HR.out]; rfl, HB.out _⟩
    · rw [if_neg h2] at HR
      unfold M.plainB at h2
      have h3 : ¬ (32 ≤ c.toNat ∧ c.toNat ≤ 126) := fun h => h2 (decide_eq_true h)
      clear h2 h1 hcv
      have hdl : (Lib.itoa (c.toNat : Int)).length ≤ 3 := itoa_len c
      generalize Lib.itoa (c.toNat : Int) = dg at *
      have ha2 : ∀ W : World, (Op.stringOp .add (ByteArray.mk #[92]) (bs dg)).run Tryz.prog W = .ok (.string (bs (92 :: dg))) W := by
        intro W
        have h := run_string_add_sum (P := Tryz.prog) W (bs [92]) (bs dg) (by rw [bs_size, bs_size]; simp; omega)
        rw [bs_app] at h
        exact h
      have ha3 : ∀ W : World, (Op.stringOp .add (bs (92 :: dg)) (ByteArray.mk #[92, 38])).run Tryz.prog W = .ok (.string (bs (92 :: (dg ++ [92, 38])))) W := by
        intro W
        have h := run_string_add_sum (P := Tryz.prog) W (bs (92 :: dg)) (bs [92, 38]) (by rw [bs_size, bs_size]; simp; omega)
        rw [bs_app] at h
        exact h
      clear hdl ha1
      generalize c.toNat = b at *
      have e1 : ((b : Int) == 39) = false := beq_eq_false_iff_ne.2 (by omega)
      have e2 : ((b : Int) == 92) = false := beq_eq_false_iff_ne.2 (by omega)
      have hb0 : (b : Int) ≤ 255 := by omega
      rcases Nat.lt_or_ge b 32 with g | g
      · have g1 : (b : Int) < 32 := by omega
        clear h3 n1 n2 hlt g
        go_enter Tryz.func44, Tryz.ntmps44
        go_wp2_with (go_at_call 43; fail)
        refine HD.out.mono ?_
        rintro e w1 ⟨rfl, hb1⟩
        have HB1 : Hid (Below w.heap.size w w1) := hb1
        clear hb1
        go_wp2
        go_ret
        exact ⟨by rw [HR.out]; first | rfl | (rw [List.append_nil]; rfl), HB1.out⟩
      · have g1 : (32 : Int) ≤ b := by omega
        have g2 : (126 : Int) < b := by omega
        clear h3 n1 n2 hlt g
        go_enter Tryz.func44, Tryz.ntmps44
        go_wp2_with (go_at_call 43; fail)
        refine HD.out.mono ?_
        rintro e w1 ⟨rfl, hb1⟩
        have HB1 : Hid (Below w.heap.size w w1) := hb1
        clear hb1
        go_wp2
        go_ret
        exact ⟨by rw [HR.out]; first | rfl | (rw [List.append_nil]; rfl), HB1.out⟩

set_option maxRecDepth 100000 in
set_option maxHeartbeats 4000000 in
theorem rShown34_c (c : UInt8) (w : World) :
    Calls Tryz.prog 44 #[.int .u8 (c.toNat : Int), .int .u8 34] w fun e w' => e = .returned (.string (bs (chB 34 [92, 38] c))) ∧ Below w.heap.size w w' := by
  have HB : Hid (∀ o : Obj, Below w.heap.size w (w.alloc o)) := fun o => (Below.refl _ w).alloc (Nat.le_refl _) _
  have hlt : c.toNat < 256 := UInt8.toNat_lt c
  have hcv := conv_blk (w.alloc (.cells #[.int .u8 (c.toNat : Int)] 5)) w.heap.size c.toNat (by omega) (Blk.new w _ _)
  rw [u8_of] at hcv
  have HR : Hid (chB 34 [92, 38] c = if c = 34 ∨ c = 92 then [92, c] else if M.plainB c = true then [c] else 92 :: (Lib.itoa (c.toNat : Int) ++ [92, 38])) := rfl
  have HD : Hid (Calls Tryz.prog 43 #[.int .i64 (c.toNat : Int)] w fun e w' => e = .returned (.string (bs (Lib.itoa (c.toNat : Int)))) ∧ Below w.heap.size w w') := by
    have := rDigits_c c.toNat (by omega) w
    rw [← Lib.itoa_nonneg] at this
    exact this
  have ha1 : ∀ W : World, (Op.stringOp .add (ByteArray.mk #[92]) (bs [c])).run Tryz.prog W = .ok (.string (bs [92, c])) W := by
    intro W
    have h := run_string_add_sum (P := Tryz.prog) W (bs [92]) (bs [c]) (by rw [bs_size, bs_size]; simp)
    rw [bs_app] at h
    exact h
  by_cases h1 : c = 34 ∨ c = 92
  · rw [if_pos h1] at HR
    by_cases h0 : c.toNat = 34
    · clear HD h1
      generalize c.toNat = b at *
      have e1 : ((b : Int) == 34) = true := beq_iff_eq.2 (by omega)
      clear hlt h0
      go_enter Tryz.func44, Tryz.ntmps44
      go_wp2
      go_ret
      exact ⟨by rw [HR.out]; rfl, HB.out _⟩
    · have h92 : c.toNat = 92 := by
        rcases h1 with h1 | h1
        · exact absurd (by rw [h1]; rfl) h0
        · rw [h1]; rfl
      clear HD h1
      generalize c.toNat = b at *
      have e1 : ((b : Int) == 34) = false := beq_eq_false_iff_ne.2 (by omega)
      have e2 : ((b : Int) == 92) = true := beq_iff_eq.2 (by omega)
      clear hlt h0 h92
      go_enter Tryz.func44, Tryz.ntmps44
      go_wp2
      go_ret
      exact ⟨by rw [HR.out]; rfl, HB.out _⟩
  · rw [if_neg h1] at HR
    have n1 : c.toNat ≠ 34 := fun h => h1 (.inl (UInt8.toNat_inj.1 h))
    have n2 : c.toNat ≠ 92 := fun h => h1 (.inr (UInt8.toNat_inj.1 h))
    by_cases h2 : M.plainB c = true
    · rw [if_pos h2] at HR
      unfold M.plainB at h2
      have h3 := of_decide_eq_true h2
      clear h2 HD h1
      generalize c.toNat = b at *
      have e1 : ((b : Int) == 34) = false := beq_eq_false_iff_ne.2 (by omega)
      have e2 : ((b : Int) == 92) = false := beq_eq_false_iff_ne.2 (by omega)
      have g1 : (32 : Int) ≤ b := by omega
      have g2 : (b : Int) ≤ 126 := by omega
      clear h3 n1 n2 hlt
      go_enter Tryz.func44, Tryz.ntmps44
      go_wp2
      go_ret
      exact ⟨by rw [HR.out]; rfl, HB.out _⟩
    · rw [if_neg h2] at HR
      unfold M.plainB at h2
      have h3 : ¬ (32 ≤ c.toNat ∧ c.toNat ≤ 126) := fun h => h2 (decide_eq_true h)
      clear h2 h1 hcv
      have hdl : (Lib.itoa (c.toNat : Int)).length ≤ 3 := itoa_len c
      generalize Lib.itoa (c.toNat : Int) = dg at *
      have ha2 : ∀ W : World, (Op.stringOp .add (ByteArray.mk #[92]) (bs dg)).run Tryz.prog W = .ok (.string (bs (92 :: dg))) W := by
        intro W
        have h := run_string_add_sum (P := Tryz.prog) W (bs [92]) (bs dg) (by rw [bs_size, bs_size]; simp; omega)
        rw [bs_app] at h
        exact h
      have ha3 : ∀ W : World, (Op.stringOp .add (bs (92 :: dg)) (ByteArray.mk #[92, 38])).run Tryz.prog W = .ok (.string (bs (92 :: (dg ++ [92, 38])))) W := by
        intro W
        have h := run_string_add_sum (P := Tryz.prog) W (bs (92 :: dg)) (bs [92, 38]) (by rw [bs_size, bs_size]; simp; omega)
        rw [bs_app] at h
        exact h
      clear hdl ha1
      generalize c.toNat = b at *
      have e1 : ((b : Int) == 34) = false := beq_eq_false_iff_ne.2 (by omega)
      have e2 : ((b : Int) == 92) = false := beq_eq_false_iff_ne.2 (by omega)
      have hb0 : (b : Int) ≤ 255 := by omega
      rcases Nat.lt_or_ge b 32 with g | g
      · have g1 : (b : Int) < 32 := by omega
        clear h3 n1 n2 hlt g
        go_enter Tryz.func44, Tryz.ntmps44
        go_wp2_with (go_at_call 43; fail)
        refine HD.out.mono ?_
        rintro e w1 ⟨rfl, hb1⟩
        have HB1 : Hid (Below w.heap.size w w1) := hb1
        clear hb1
        go_wp2
        go_ret
        exact ⟨by rw [HR.out]; first | rfl | (rw [List.append_nil]; rfl), HB1.out⟩
      · have g1 : (32 : Int) ≤ b := by omega
        have g2 : (126 : Int) < b := by omega
        clear h3 n1 n2 hlt g
        go_enter Tryz.func44, Tryz.ntmps44
        go_wp2_with (go_at_call 43; fail)
        refine HD.out.mono ?_
        rintro e w1 ⟨rfl, hb1⟩
        have HB1 : Hid (Below w.heap.size w w1) := hb1
        clear hb1
        go_wp2
        go_ret
        exact ⟨by rw [HR.out]; first | rfl | (rw [List.append_nil]; rfl), HB1.out⟩


theorem add_bs (a b : List UInt8) (h : a.length + b.length ≤ 9223372036854775807) (W : World) : (Op.stringOp .add (bs a) (bs b)).run Tryz.prog W = .ok (.string (bs (a ++ b))) W := by
  rw [run_string_add_sum W _ _ (by rw [bs_size, bs_size]; exact h), bs_app]
set_option maxHeartbeats 4000000 in
set_option maxRecDepth 100000 in
theorem rTextInt_c (tx : List UInt8) (num : Int) (hn : num ≤ 9223372036854775807) (a l c : Int) (f : Bool) (w : World) :
    Calls Tryz.prog 17 #[.agg #[.int .i64 5, .string (bs tx), .int .i64 num, .int .i64 a, .int .i64 l, .int .i64 c, .bool f]] w fun e W' => e = .returned (.string (bs (txM 5 tx num))) ∧ Below w.heap.size w W' := by
  have HI : Hid (∀ (n : Nat) (W : World), n ≤ 9223372036854775807 → Calls Tryz.prog 43 #[.int .i64 (n : Int)] W fun e W' => e = .returned (.string (bs (Lib.decDigits n))) ∧ Below W.heap.size W W') := fun n W hn => rDigits_c n hn W
  have hB : Hid (∀ o : Obj, Below w.heap.size w (w.alloc o)) := fun o => (Below.refl _ w).alloc (Nat.le_refl _) _
  obtain ⟨n, hm⟩ : ∃ n : Nat, max 0 num = (n : Int) := ⟨(max 0 num).toNat, by omega⟩
  have HT : Hid (txM 5 tx num = Lib.decDigits n) := by show _ = _; unfold txM; rw [if_pos rfl, show max num 0 = (n : Int) by omega, Lib.itoa_nonneg]
  have hn2 : n ≤ 9223372036854775807 := by omega
  go_enter Tryz.func17, Tryz.ntmps17
  go_wp2_with (go_at_call 43; fail)
  refine (HI.out n _ hn2).mono ?_
  rintro r w1 ⟨rfl, hb1⟩
  have HB1 : Hid (Below w.heap.size w w1) := (hB.out _).trans (hb1.mono (by simp))
  clear hb1 hm hn2
  go_wp2
  go_ret
  exact ⟨HT.out ▸ rfl, HB1.out⟩

set_option maxHeartbeats 4000000 in
set_option maxRecDepth 100000 in
theorem rTextChar_c (tx : List UInt8) (num : Int) (a l c : Int) (f : Bool) (w : World) :
    Calls Tryz.prog 17 #[.agg #[.int .i64 6, .string (bs tx), .int .i64 num, .int .i64 a, .int .i64 l, .int .i64 c, .bool f]] w fun e W' => e = .returned (.string (bs (txM 6 tx num))) ∧ Below w.heap.size w W' := by
  have hB : Hid (∀ o : Obj, Below w.heap.size w (w.alloc o)) := fun o => (Below.refl _ w).alloc (Nat.le_refl _) _
  obtain ⟨n, hm⟩ : ∃ n : Nat, min 255 (max 0 num) = (n : Int) := ⟨(min 255 (max 0 num)).toNat, by omega⟩
  have hn2 : n ≤ 255 := by omega
  have hn3 : (n : Int) ≤ 255 := by omega
  have HT : Hid (txM 6 tx num = quM 39 [] [UInt8.ofNat n]) := by show _ = _; unfold txM; rw [if_neg (by omega), if_pos rfl, show min (max num 0) 255 = (n : Int) by omega]; rfl
  have HS : Hid (∀ (W : World), Calls Tryz.prog 44 #[.int .u8 (n : Int), .int .u8 39] W fun e W' => e = .returned (.string (bs (chB 39 [] (UInt8.ofNat n)))) ∧ Below W.heap.size W W') := by
    intro W
    have := rShown39_c (UInt8.ofNat n) W
    rw [show (UInt8.ofNat n).toNat = n by rw [UInt8.toNat_ofNat']; omega] at this
    exact this
  have HQ : Hid (quM 39 [] [UInt8.ofNat n] = 39 :: (chB 39 [] (UInt8.ofNat n) ++ [39])) := by show _ = _; unfold quM; rw [List.flatMap_singleton]
  have hxl := chB_len 39 [] (UInt8.ofNat n)
  generalize chB 39 [] (UInt8.ofNat n) = x at HS HQ hxl
  simp only [List.length_nil, Nat.add_zero] at hxl
  have ha1 : ∀ W : World, (Op.stringOp .add (ByteArray.mk #[39]) (bs x)).run Tryz.prog W = .ok (.string (bs (39 :: x))) W := add_bs [39] x (by simp; omega)
  have ha2 : ∀ W : World, (Op.stringOp .add (bs (39 :: x)) (ByteArray.mk #[39])).run Tryz.prog W = .ok (.string (bs (39 :: (x ++ [39])))) W := add_bs (39 :: x) [39] (by simp; omega)
  clear hn2 hxl
  go_enter Tryz.func17, Tryz.ntmps17
  go_wp2_with (go_at_call 44; fail)
  refine (HS.out _).mono ?_
  rintro r w1 ⟨rfl, hb1⟩
  have HB1 : Hid (Below w.heap.size w w1) := (hB.out _).trans (hb1.mono (by simp))
  clear hb1 hm hn3
  go_wp2
  go_ret
  refine ⟨?_, HB1.out⟩
  rw [HT.out, HQ.out]
  rfl

set_option maxHeartbeats 4000000 in
set_option maxRecDepth 100000 in
theorem rTextStr_c (s : ByteArray) (hs : s.size ≤ 70000) (num a l c : Int) (f : Bool) (w : World) :
    Calls Tryz.prog 17 #[.agg #[.int .i64 7, .string s, .int .i64 num, .int .i64 a, .int .i64 l, .int .i64 c, .bool f]] w fun e W' => e = .returned (.string (bs (txM 7 s.data.toList num))) ∧ Below w.heap.size w W' := by
  have hB : Hid (∀ o : Obj, Below w.heap.size w (w.alloc o)) := fun o => (Below.refl _ w).alloc (Nat.le_refl _) _
  have HT : Hid (txM 7 s.data.toList num = 34 :: (s.data.toList.flatMap (chB 34 [92, 38]) ++ [34])) := rfl
  have HS : Hid (∀ (b : UInt8) (W : World), Calls Tryz.prog 44 #[.int .u8 (b.toNat : Int), .int .u8 34] W fun e W' => e = .returned (.string (bs (chB 34 [92, 38] b))) ∧ Below W.heap.size W W') := rShown34_c
  have hsz : s.data.toList.length = s.size := (Lib.size_eq s).symm
  have HZ : Hid (s.data.toList.length = s.size) := hsz
  have hsi : (s.size : Int) ≤ 70000 := by omega
  clear hs hsz
  go_enter Tryz.func17, Tryz.ntmps17
  go_wp2
  have hK0 : Hid (Blk (w.alloc (.cells #[.int .i64 7, .string s, .int .i64 num, .int .i64 a, .int .i64 l, .int .i64 c, .bool f] 30)) w.heap.size #[.int .i64 7, .string s, .int .i64 num, .int .i64 a, .int .i64 l, .int .i64 c, .bool f] 30) := Blk.new w _ _
  go_loopw [3, 4] (fun x i wr => ∃ k : Nat, k ≤ s.size ∧ i = .int .i64 k ∧ x = .string (bs (34 :: (s.data.toList.take k).flatMap (chB 34 [92, 38]))) ∧ Hid (Blk wr w.heap.size #[.int .i64 7, .string s, .int .i64 num, .int .i64 a, .int .i64 l, .int .i64 c, .bool f] 30) ∧ Hid (Below w.heap.size w wr)) (fun _ i _ => s.size - (intOf i).toNat)
  case atStart => exact ⟨0, Nat.zero_le _, rfl, rfl, hK0, hB.out _⟩
  case round =>
    obtain ⟨k, hk, rfl, rfl, hK, hB1⟩ := hrel
    clear hK0
    have q1 := hK.out.cell 1 _ rfl
    have hlw := hK.out.lt
    by_cases hlt : k < s.size
    · have hkl : k < s.data.toList.length := by rw [HZ.out]; exact hlt
      have htk := take_flat s.data.toList (chB 34 [92, 38]) k hkl
      have hge : s.data.toList[k] = s[k]'hlt := by simp [ByteArray.getElem_eq_getElem_data]
      rw [hge] at htk
      obtain ⟨b, hb⟩ : ∃ b, s[k]'hlt = b := ⟨_, rfl⟩
      rw [hb] at htk
      have HT2 : Hid ((s.data.toList.take (k + 1)).flatMap (chB 34 [92, 38]) = (s.data.toList.take k).flatMap (chB 34 [92, 38]) ++ chB 34 [92, 38] b) := htk
      have hpl := flat_len 34 [92, 38] (s.data.toList.take k)
      have hyl := chB_len 34 [92, 38] b
      rw [List.length_take] at hpl
      generalize (s.data.toList.take k).flatMap (chB 34 [92, 38]) = pre at HT2 hpl
      have HSb : Hid (∀ (W : World), Calls Tryz.prog 44 #[.int .u8 (b.toNat : Int), .int .u8 34] W fun e W' => e = .returned (.string (bs (chB 34 [92, 38] b))) ∧ Below W.heap.size W W') := HS.out b
      generalize chB 34 [92, 38] b = y at HT2 HSb hyl
      simp only [List.length_cons, List.length_nil] at hpl hyl
      have ha1 : ∀ W : World, (Op.stringOp .add (bs (34 :: pre)) (bs y)).run Tryz.prog W = .ok (.string (bs (34 :: (pre ++ y)))) W := add_bs (34 :: pre) y (by simp; omega)
      clear hpl hyl
      have hki : (k : Int) < (s.size : Int) := by omega
      clear htk hge hkl
      go_wp2_with (go_at_call 44; fail)
      refine (HSb.out _).mono ?_
      rintro r w1 ⟨rfl, hb1⟩
      have hK2 : Hid (Blk w1 w.heap.size #[.int .i64 7, .string s, .int .i64 num, .int .i64 a, .int .i64 l, .int .i64 c, .bool f] 30) := hK.out.below hb1
      have hB2 : Hid (Below w.heap.size w w1) := hB1.out.trans (hb1.mono hB1.out.size)
      clear hb1 hK hB1 q1 hlw
      go_wp2
      go_roundw
      case rel =>
        refine ⟨k + 1, by omega, by go_num, ?_, hK2, hB2⟩
        rw [HT2.out]
      case measure => simp [intOf]; omega
    · obtain rfl : k = s.size := by omega
      have HF : Hid (s.data.toList.take s.size = s.data.toList) := by show _ = _; rw [List.take_of_length_le (by rw [HZ.out]; exact Nat.le_refl _)]
      have HT3 : Hid (txM 7 s.data.toList num = 34 :: ((s.data.toList.take s.size).flatMap (chB 34 [92, 38]) ++ [34])) := by show _ = _; rw [HF.out]; exact HT.out
      have hpl := flat_len 34 [92, 38] (s.data.toList.take s.size)
      rw [List.length_take] at hpl
      generalize (s.data.toList.take s.size).flatMap (chB 34 [92, 38]) = pre at HT3 hpl
      simp only [List.length_cons, List.length_nil] at hpl
      have ha1 : ∀ W : World, (Op.stringOp .add (bs (34 :: pre)) (ByteArray.mk #[34])).run Tryz.prog W = .ok (.string (bs (34 :: (pre ++ [34])))) W := add_bs (34 :: pre) [34] (by simp; omega)
      clear hlt hk hpl
      go_wp2
      go_ret
      refine ⟨?_, hB1.out⟩
      rw [HT3.out]
      rfl

set_option maxHeartbeats 4000000 in
set_option maxRecDepth 100000 in
theorem rTextPlain_c (k : Int) (h1 : 1 ≤ k) (h2 : k ≤ 10) (h5 : k ≠ 5) (h6 : k ≠ 6) (h7 : k ≠ 7) (tx : List UInt8) (num a l c : Int) (f : Bool) (w : World) :
    Calls Tryz.prog 17 #[.agg #[.int .i64 k, .string (bs tx), .int .i64 num, .int .i64 a, .int .i64 l, .int .i64 c, .bool f]] w fun e W' => e = .returned (.string (bs (txM k tx num))) ∧ Below w.heap.size w W' := by
  have hB : Hid (∀ o : Obj, Below w.heap.size w (w.alloc o)) := fun o => (Below.refl _ w).alloc (Nat.le_refl _) _
  have HT : Hid (txM k tx num = tx) := by show _ = _; unfold txM; rw [if_neg h5, if_neg h6, if_neg h7, if_pos (by omega)]
  have e5 : (k == 5) = false := beq_eq_false_iff_ne.2 (by omega)
  have e6 : (k == 6) = false := beq_eq_false_iff_ne.2 (by omega)
  have e7 : (k == 7) = false := beq_eq_false_iff_ne.2 (by omega)
  clear h5 h6 h7
  go_enter Tryz.func17, Tryz.ntmps17
  go_wp2
  go_ret
  exact ⟨by rw [HT.out]; rfl, hB.out _⟩

set_option maxHeartbeats 4000000 in
set_option maxRecDepth 100000 in
theorem rTextNone_c (k : Int) (hk : k < 1 ∨ 10 < k) (tx : List UInt8) (num a l c : Int) (f : Bool) (w : World) :
    Calls Tryz.prog 17 #[.agg #[.int .i64 k, .string (bs tx), .int .i64 num, .int .i64 a, .int .i64 l, .int .i64 c, .bool f]] w fun e W' => e = .returned (.string (bs (txM k tx num))) ∧ Below w.heap.size w W' := by
  have hB : Hid (∀ o : Obj, Below w.heap.size w (w.alloc o)) := fun o => (Below.refl _ w).alloc (Nat.le_refl _) _
  have HT : Hid (txM k tx num = []) := by show _ = _; unfold txM; rw [if_neg (by omega), if_neg (by omega), if_neg (by omega), if_neg (by omega)]
  have e5 : (k == 5) = false := beq_eq_false_iff_ne.2 (by omega)
  have e6 : (k == 6) = false := beq_eq_false_iff_ne.2 (by omega)
  have e7 : (k == 7) = false := beq_eq_false_iff_ne.2 (by omega)
  rcases hk with hk | hk
  · go_enter Tryz.func17, Tryz.ntmps17
    go_wp2
    go_ret
    exact ⟨by rw [HT.out]; rfl, hB.out _⟩
  · have hk1 : 1 ≤ k := by omega
    go_enter Tryz.func17, Tryz.ntmps17
    go_wp2
    go_ret
    exact ⟨by rw [HT.out]; rfl, hB.out _⟩

theorem rTextG_c (t : Tg) (hn : t.num ≤ 9223372036854775807) (hx : t.text.length ≤ 70000) (w : World) :
    Calls Tryz.prog 17 #[.agg #[.int .i64 t.kind, .string (bs t.text), .int .i64 t.num, .int .i64 t.pos, .int .i64 t.line, .int .i64 t.col, .bool t.first]] w fun e W' => e = .returned (.string (bs (txG t))) ∧ Below w.heap.size w W' := by
  obtain ⟨k, tx, num, pos, line, col, first⟩ := t
  simp only at hn hx ⊢
  unfold txG
  simp only
  by_cases h : k < 1 ∨ 10 < k
  · exact rTextNone_c k h tx num pos line col first w
  · by_cases h5 : k = 5
    · subst h5; exact rTextInt_c tx num hn pos line col first w
    · by_cases h6 : k = 6
      · subst h6; exact rTextChar_c tx num pos line col first w
      · by_cases h7 : k = 7
        · subst h7; exact rTextStr_c (bs tx) (by rw [bs_size]; exact hx) num pos line col first w
        · exact rTextPlain_c k (by omega) (by omega) h5 h6 h7 tx num pos line col first w


theorem tl_snoc (u : List UInt8) : ∀ us : List (List UInt8), tl (us ++ [u]) = tl us ++ (32 :: u)
  | [] => by simp [tl]
  | v :: us => by simp [tl, tl_snoc u us]
theorem joinM_snoc (u : List UInt8) (us : List (List UInt8)) (h : us ≠ []) : joinM (us ++ [u]) = joinM us ++ [32] ++ u := by
  cases us with
  | nil => exact absurd rfl h
  | cons v us => simp [joinM, tl_snoc]
theorem take_snoc' {α : Type} (ts : List α) (k : Nat) (h : k < ts.length) : ts.take (k + 1) = ts.take k ++ [ts[k]] := List.take_succ_eq_append_getElem h
theorem cells_app2 (a b : List UInt8) : cellsL (a ++ b) = cellsL a ++ cellsL b := by simp [cellsL]
theorem cells_str (a b : List UInt8) : cellsL a ++ Lib.strCells (bs b) = cellsL (a ++ b) := by simp [cellsL, Lib.strCells, bs]
theorem info5b : (Tryz.prog.info? 5).map (fun i => (i.zero, i.size, i.bytes)) = some (some (.int .u8 0), 1, 1) := by kernel_rfl

set_option maxHeartbeats 4000000 in
set_option maxRecDepth 100000 in
theorem rJoinG_c (ts : List Tg) (o : Option Addr) (cap : Nat) (hn : ts.length ≤ 5000) (hb : ∀ t ∈ ts, t.num ≤ 9223372036854775807 ∧ t.text.length ≤ 5000) (w : World) (h : TgIn w o ts) :
    Calls Tryz.prog 20 #[.slice o ts.length cap] w fun r W' => r = .returned (.string (bs (joinM (ts.map txG)))) ∧ Below w.heap.size w W' := by
  obtain ⟨i0, hi, hzz⟩ := Option.map_eq_some_iff.1 info5b
  simp only [Prod.mk.injEq] at hzz
  obtain ⟨hz0, hz1, hz2⟩ := hzz
  have HI0 : Hid (Tryz.prog.info? 5 = some i0 ∧ i0.zero = some (.int .u8 0) ∧ i0.size = 1 ∧ i0.bytes = 1) := ⟨hi, hz0, hz1, hz2⟩
  have HT : Hid (∀ (t : Tg), t ∈ ts → ∀ W : World, Calls Tryz.prog 17 #[.agg #[.int .i64 t.kind, .string (bs t.text), .int .i64 t.num, .int .i64 t.pos, .int .i64 t.line, .int .i64 t.col, .bool t.first]] W fun e W' => e = .returned (.string (bs (txG t))) ∧ Below W.heap.size W W') := fun t ht W => rTextG_c t (hb t ht).1 (by have := (hb t ht).2; omega) W
  obtain ⟨m, hm⟩ : ∃ m, ts.length = m := ⟨_, rfl⟩
  have HM : Hid (ts.length = m) := hm
  have HN : Hid (m ≤ 5000) := by rw [← hm]; exact hn
  have HBD : Hid (∀ t ∈ ts, (txG t).length ≤ 30030) := by
    intro t ht
    have h2 := hb t ht
    have h3 := txG_len t h2.1
    omega
  have hmi : (m : Int) ≤ 5000 := by omega
  have HR : Hid (TgIn w o ts) := h
  rw [hm]
  clear h hb hn hm hi hz0 hz1 hz2
  go_enter Tryz.func20, Tryz.ntmps20
  go_wp2
  go_loopw [3, 4] (fun x i wr => ∃ (k : Nat) (v : Value), k ≤ m ∧ i = .int .i64 k ∧ v = x ∧ Hid (wr.ownsRow w.heap.size 5 1 v (joinM ((ts.take k).map txG)).length (cellsL (joinM ((ts.take k).map txG)))) ∧ Hid ((joinM ((ts.take k).map txG)).length ≤ k * 30031) ∧ Hid (Below w.heap.size w wr)) (fun _ i _ => m - (intOf i).toNat)
  case atStart => exact ⟨0, _, Nat.zero_le _, rfl, rfl, World.ownsRow_nil _ _ _ _, Nat.zero_le _, Below.refl _ _⟩
  case round =>
    obtain ⟨k, v, hk, rfl, rfl, hO, hLen, hB⟩ := hrel
    by_cases hlt : k < m
    · have hkL : k < ts.length := by rw [HM.out]; exact hlt
      have hki : (k : Int) < (m : Int) := by omega
      obtain ⟨g, off, rfl, hg, hTA⟩ := HR.out.at k hkL
      have hcell := fun q u hu => (hB.out.cell (p := ⟨g, off + k * 7 + q, none⟩) hg).trans (hTA k hkL q u hu)
      have hgr : g < wr.heap.size := by have := hB.out.size; omega
      have HC : Hid (∀ q u, (tgC ts[k])[q]? = some u → wr.cell? ⟨g, off + k * 7 + q, none⟩ = some u) := hcell
      have HTk : Hid (∀ W : World, Calls Tryz.prog 17 #[.agg #[.int .i64 ts[k].kind, .string (bs ts[k].text), .int .i64 ts[k].num, .int .i64 ts[k].pos, .int .i64 ts[k].line, .int .i64 ts[k].col, .bool ts[k].first]] W fun e W' => e = .returned (.string (bs (txG ts[k]))) ∧ Below W.heap.size W W') := fun W => HT.out ts[k] (List.getElem_mem hkL) W
      have HBk : Hid ((txG ts[k]).length ≤ 30030) := HBD.out _ (List.getElem_mem hkL)
      have HE : Hid ((ts.take (k + 1)).map txG = (ts.take k).map txG ++ [txG ts[k]]) := by show _ = _; rw [take_snoc' ts k hkL, List.map_append]; rfl
      have HK5 : Hid (k ≤ 5000) := by have := HN.out; show k ≤ 5000; omega
      have HBs : Hid (w.heap.size ≤ wr.heap.size) := hB.out.size
      rcases Nat.eq_zero_or_pos k with h0 | h0
      · subst h0
        have HE1 : Hid (joinM ((ts.take (0 + 1)).map txG) = txG ts[0]) := by show _ = _; rw [HE.out]; simp [joinM, tl]
        have c0 := HC.out 0 _ rfl
        rw [Nat.add_zero] at c0
        have c1 := HC.out 1 _ rfl
        have c2 := HC.out 2 _ rfl
        have c3 := HC.out 3 _ rfl
        have c4 := HC.out 4 _ rfl
        have c5 := HC.out 5 _ rfl
        have c6 := HC.out 6 _ rfl
        simp only [Nat.zero_mul, Nat.add_zero] at c0 c1 c2 c3 c4 c5 c6
        generalize ts[0] = t at c0 c1 c2 c3 c4 c5 c6 HTk HE1 HBk
        obtain ⟨tk, tt, tn, pos, line, col, first⟩ := t
        simp only at c0 c1 c2 c3 c4 c5 c6 HTk HE1 HBk
        generalize txG ⟨tk, tt, tn, pos, line, col, first⟩ = tx at HTk HE1 HBk
        have hO1 : Hid (wr.ownsRow w.heap.size 5 1 v 0 []) := hO.out
        clear hcell hkL hTA HC HE hO hLen
        go_wp2_with (go_at_call 17; fail)
        refine (HTk.out _).mono ?_
        rintro r w2 ⟨rfl, hb2⟩
        have hO2 : Hid (w2.ownsRow w.heap.size 5 1 v 0 []) := owns_below hO1.out hb2
        have hB2 : Hid (Below w.heap.size w w2) := hB.out.trans (hb2.mono hB.out.size)
        clear hb2 hB c0 c1 c2 c3 c4 c5 c6 hO1
        go_wp2_with (at_builtin; refine Lib.wpList_append_own_string _ rfl (.tmp 16) (.tmp 21) 61 9 rfl w.heap.size 5 i0 Tryz.underlying61 Tryz.underlying9 HI0.out.1 HI0.out.2.1 HI0.out.2.2.1 HI0.out.2.2.2 v 0 [] rfl hO2.out (bs tx) rfl (by have := HBk.out; rw [bs_size]; unfold maxLen; omega) (by have := HBk.out; rw [bs_size]; omega) hB2.out.size ?_; intro v4 w4 hown4 hgrow4 _)
        go_roundw
        case rel =>
          refine ⟨0 + 1, _, by omega, by go_num, rfl, ?_, ?_, ?_⟩
          · rw [HE1.out]
            show World.ownsRow _ _ _ _ _ _ _
            have h1 := hown4
            rw [bs_size, Nat.zero_add] at h1
            have e := cells_str [] tx
            simp only [cellsL, List.map_nil, List.nil_append] at e h1
            rw [List.nil_append] at *
            rw [e] at h1
            exact h1
          · rw [HE1.out]; have := HBk.out; show _ ≤ _; omega
          · exact hB2.out.grown hgrow4 hB2.out.size (fun j e => (hO2.out.lt j e).1)
        case measure => simp [intOf]; omega
      · have HE1 : Hid (joinM ((ts.take (k + 1)).map txG) = joinM ((ts.take k).map txG) ++ [32] ++ txG ts[k]) := by
          show _ = _
          rw [HE.out]
          refine joinM_snoc _ _ (fun e => ?_)
          have h1 := congrArg List.length e
          rw [List.length_map, List.length_take] at h1
          simp only [List.length_nil] at h1
          omega
        have HC0 : Hid (∀ q u, (tgC ts[k])[q]? = some u → w.cell? ⟨g, off + k * 7 + q, none⟩ = some u) := fun q u hu => hTA k hkL q u hu
        generalize ts[k] = t at HTk HE1 HBk HC0
        obtain ⟨tk, tt, tn, pos, line, col, first⟩ := t
        simp only at HTk HE1 HBk HC0
        generalize txG ⟨tk, tt, tn, pos, line, col, first⟩ = tx at HTk HE1 HBk
        generalize joinM ((ts.take k).map txG) = pre at hO hLen HE1
        have hkp : (0 : Int) < k := by omega
        clear hcell hkL hTA HC HE h0
        go_wp2_with (first
          | (at_builtin; refine wpList_append_own _ rfl _ _ 61 rfl w.heap.size 5 i0 (.int .u8 0) 1 1 Tryz.underlying61 HI0.out.1 HI0.out.2.1 HI0.out.2.2.1 HI0.out.2.2.2 rfl (by decide) _ _ _ rfl (hO.out.alloc _) ⟨wr.heap.size, 0, none⟩ 1 1 [.int .u8 32] rfl rfl (cell_one_new _ _ _) (by simp [Value.oneCell']) (by have := hLen.out; have := HK5.out; unfold maxLen; omega) (by have := hLen.out; have := HK5.out; omega) (by have := HBs.out; simp; omega) ?_; intro v3 w3 hown3 hgrow3 _; have HO3 : Hid (w3.ownsRow w.heap.size 5 1 v3 (pre.length + 1) (cellsL pre ++ [.int .u8 32])) := hown3; have HB3 : Hid (Below w.heap.size w w3) := (hB.out.alloc hB.out.size _).grown hgrow3 (by have := HBs.out; simp; omega) (fun j e => (hO.out.lt j e).1); have hg3 : g < w3.heap.size := Nat.lt_of_lt_of_le hg HB3.out.size; have c0 := (HB3.out.cell (p := ⟨g, off + k * 7, none⟩) hg).trans (HC0.out 0 _ rfl); have c1 := (HB3.out.cell (p := ⟨g, off + k * 7 + 1, none⟩) hg).trans (HC0.out 1 _ rfl); have c2 := (HB3.out.cell (p := ⟨g, off + k * 7 + 2, none⟩) hg).trans (HC0.out 2 _ rfl); have c3 := (HB3.out.cell (p := ⟨g, off + k * 7 + 3, none⟩) hg).trans (HC0.out 3 _ rfl); have c4 := (HB3.out.cell (p := ⟨g, off + k * 7 + 4, none⟩) hg).trans (HC0.out 4 _ rfl); have c5 := (HB3.out.cell (p := ⟨g, off + k * 7 + 5, none⟩) hg).trans (HC0.out 5 _ rfl); have c6 := (HB3.out.cell (p := ⟨g, off + k * 7 + 6, none⟩) hg).trans (HC0.out 6 _ rfl); clear hown3 hgrow3)
          | (go_at_call 17; fail))
        refine (HTk.out _).mono ?_
        rintro r w2 ⟨rfl, hb2⟩
        have hO2 : Hid (w2.ownsRow w.heap.size 5 1 v3 (pre.length + 1) (cellsL pre ++ [.int .u8 32])) := owns_below HO3.out hb2
        have hB2 : Hid (Below w.heap.size w w2) := HB3.out.trans (hb2.mono HB3.out.size)
        clear hb2 hB HB3 HO3 hO c0 c1 c2 c3 c4 c5 c6
        go_wp2_with (at_builtin; refine Lib.wpList_append_own_string _ rfl (.tmp 16) (.tmp 21) 61 9 rfl w.heap.size 5 i0 Tryz.underlying61 Tryz.underlying9 HI0.out.1 HI0.out.2.1 HI0.out.2.2.1 HI0.out.2.2.2 v3 (pre.length + 1) (cellsL pre ++ [.int .u8 32]) rfl hO2.out (bs tx) rfl (by have := HBk.out; have := hLen.out; have := HK5.out; rw [bs_size]; unfold maxLen; omega) (by have := HBk.out; have := hLen.out; have := HK5.out; rw [bs_size]; omega) hB2.out.size ?_; intro v4 w4 hown4 hgrow4 _)
        go_roundw
        case rel =>
          refine ⟨k + 1, _, by omega, by go_num, rfl, ?_, ?_, ?_⟩
          · rw [HE1.out]
            show World.ownsRow _ _ _ _ _ _ _
            have h1 := hown4
            rw [bs_size] at h1
            have e : cellsL pre ++ [Value.int .u8 32] ++ Lib.strCells (bs tx) = cellsL (pre ++ [32] ++ tx) := by
              rw [← cells_str, cells_app2]; rfl
            rw [e] at h1
            have e2 : pre.length + 1 + tx.length = (pre ++ [32] ++ tx).length := by simp only [List.length_append, List.length_singleton]
            rw [e2] at h1
            exact h1
          · rw [HE1.out]; have h1 := HBk.out; have h2 := hLen.out; show _ ≤ _; simp; omega
          · exact hB2.out.grown hgrow4 hB2.out.size (fun j e => (hO2.out.lt j e).1)
        case measure => simp [intOf]; omega
    · obtain rfl : k = m := by omega
      have hO1 : Hid (wr.ownsRow w.heap.size 5 1 v (joinM (ts.map txG)).length (cellsL (joinM (ts.map txG)))) := by
        have := hO.out
        rw [List.take_of_length_le (by rw [HM.out]; exact Nat.le_refl _)] at this
        exact this
      obtain ⟨pre, hpe⟩ : ∃ pre, joinM (ts.map txG) = pre := ⟨_, rfl⟩
      rw [hpe] at hO1
      have HPE : Hid (joinM (ts.map txG) = pre) := hpe
      clear hpe
      have hcv := own_convert pre hO1.out
      clear hO hLen
      go_wp2
      go_ret
      exact ⟨by rw [HPE.out]; rfl, hB.out⟩

end Go.Proofs.YtpidccdgkkcljaaGreatDoor
