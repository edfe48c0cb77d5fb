/-
  The document's digits, by a contract.
-/
import Derived.Test.YtijafedpaghhaaaDoorRf
namespace Go.Proofs.YtijafedpaghhaaaDoor
open Go.RowKit Go.Shelf Go.Maps
set_option linter.unusedVariables false

def bs (l : List UInt8) : ByteArray := ⟨l.toArray⟩
theorem bs_size (l : List UInt8) : (bs l).size = l.length := by rw [Lib.size_eq]; rfl
theorem conv_blk (W : World) (B n : Nat) (hn : n ≤ 255) (h : Blk W B #[.int .u8 (n : Int)] 5) : (convert 89 9 (.slice (some ⟨B, 0, none⟩) 1 1)).run Tryd.prog W = .ok (.string (bs [UInt8.ofNat n])) W := by
  refine run_convert_bytes_back _ 89 9 5 ⟨B, 0, none⟩ 1 [UInt8.ofNat n] Tryd.underlying89 Tryd.underlying5 Tryd.underlying9 ?_
  intro j hj
  have hj0 : j = 0 := by simpa using hj
  subst hj0
  have := h.cell 0 _ rfl
  have e : ((UInt8.ofNat n).toNat : Int) = (n : Int) := by rw [UInt8.toNat_ofNat']; omega
  show _ = some (Value.int .u8 ((UInt8.ofNat n).toNat : Int))
  rw [e]
  exact this
theorem decD_len : ∀ (k n : Nat), n < 10 ^ (k + 1) → (Lib.decDigits n).length ≤ k + 1
  | 0, n, h => by rw [Lib.decDigits, dif_pos (by omega)]; simp
  | k + 1, n, h => by
    rw [Lib.decDigits]
    split
    · simp
    · have := decD_len k (n / 10) (by rw [Nat.pow_succ] at h; omega)
      simp only [List.length_append, List.length_singleton]
      omega
theorem bel_d {w w1 : World} (h : Below w.drew.heap.size w.drew w1) : Hid (Below w.heap.size w w1) := (Below.refl _ w).drew.trans h
theorem bel_ad {w w1 : World} {o : Obj} (h : Below (w.alloc o).drew.heap.size (w.alloc o).drew w1) : Hid (Below w.heap.size w w1) := ((Below.refl _ w).alloc (Nat.le_refl _) _).drew.trans (h.mono (by simp))
theorem bel_da {w w1 : World} {o : Obj} (h : Below (w.drew.alloc o).heap.size (w.drew.alloc o) w1) : Hid (Below w.heap.size w w1) := ((Below.refl _ w).drew.alloc (Nat.le_refl _) _).trans (h.mono (by simp))
theorem blk_ad {w w1 : World} {vs : Array Value} {T : TypeId} (h : Below (w.alloc (.cells vs T)).drew.heap.size (w.alloc (.cells vs T)).drew w1) : Blk w1 w.heap.size vs T := (Blk.new w vs T).drew.below h
theorem blk_da {w w1 : World} {vs : Array Value} {T : TypeId} (h : Below (w.drew.alloc (.cells vs T)).heap.size (w.drew.alloc (.cells vs T)) w1) : Blk w1 w.heap.size vs T := (Blk.new w.drew vs T).below h
theorem bs_app (a b : List UInt8) : bs a ++ bs b = bs (a ++ b) := by
  unfold bs
  apply ByteArray.ext
  simp [ByteArray.data_append]

set_option maxRecDepth 100000 in
set_option maxHeartbeats 4000000 in
theorem rDigits_c : ∀ (n : Nat), n ≤ 9223372036854775807 → ∀ w : World,
    Calls Tryd.prog 82 #[.int .i64 (n : Int)] w fun e w' => e = .returned (.string (bs (Lib.decDigits n))) ∧ Below w.heap.size w w' := by
  intro n
  induction n using Nat.strongRecOn with
  | ind n ih =>
    intro hn w
    have hdep : Tryd.prog.follows Departure.mixedOrders = true := by kernel_rfl
    have HB : Hid (∀ o : Obj, Below w.heap.size w (w.alloc o)) := fun o => (Below.refl _ w).alloc (Nat.le_refl _) _
    by_cases h : n < 10
    · have hi : (n : Int) < 10 := by omega
      have HD : Hid (Lib.decDigits n = [UInt8.ofNat (48 + n)]) := Lib.decDigits_one h
      have hcv := conv_blk (w.alloc (.cells #[.int .u8 ((48 + n : Nat) : Int)] 5)) w.heap.size (48 + n) (by omega) (Blk.new w _ _)
      rw [show ((48 + n : Nat) : Int) = 48 + (n : Int) by omega] at hcv
      generalize UInt8.ofNat (48 + n) = dc at hcv HD
      have h0n : decide ((n : Int) < 0) = false := by simp
      clear ih hn h
      go_enter Tryd.func82, Tryd.ntmps82
      go_wp2
      go_ret
      exact ⟨by rw [HD.out]; rfl, HB.out _⟩
    · have hi : (10 : Int) ≤ n := by omega
      obtain ⟨q, hq⟩ : ∃ q, n / 10 = q := ⟨_, rfl⟩
      obtain ⟨m, hm⟩ : ∃ m, n % 10 = m := ⟨_, rfl⟩
      have hqi : (n : Int) / 10 = (q : Int) := by omega
      have hmi : (n : Int).tmod 10 = (m : Int) := by rw [Int.tmod_eq_emod_of_nonneg (by omega)]; omega
      have hw1 : IntKind.i64.wrap (q : Int) = (q : Int) := by rw [IntKind.wrap_i64]; omega
      have hw2 : IntKind.i64.wrap (48 + (m : Int)) = 48 + (m : Int) := by rw [IntKind.wrap_i64]; omega
      have hw3 : IntKind.u8.wrap (48 + (m : Int)) = 48 + (m : Int) := by rw [IntKind.wrap_u8]; omega
      have hm9 : (m : Int) ≤ 9 := by omega
      have HI : Hid (∀ w : World, Calls Tryd.prog 82 #[.int .i64 (q : Int)] w fun e w' => e = .returned (.string (bs (Lib.decDigits q))) ∧ Below w.heap.size w w') := fun w => ih q (by omega) (by omega) w
      have HD : Hid (Lib.decDigits n = Lib.decDigits q ++ [UInt8.ofNat (48 + m)]) := by
        show _ = _
        rw [Lib.decDigits, dif_neg h, hm, hq]
      have HCV : Hid (∀ (W : World) (B : Nat), Blk W B #[.int .u8 (48 + (m : Int))] 5 → (convert 89 9 (.slice (some ⟨B, 0, none⟩) 1 1)).run Tryd.prog W = .ok (.string (bs [UInt8.ofNat (48 + m)])) W) := fun W B hb => conv_blk W B (48 + m) (by omega) (by rw [show ((48 + m : Nat) : Int) = 48 + (m : Int) by omega]; exact hb)
      generalize UInt8.ofNat (48 + m) = dc at HCV HD
      have HQL : (Lib.decDigits q).length ≤ 20 := decD_len 19 q (by omega)
      generalize Lib.decDigits q = dq at HI HD HQL
      have hadd : ∀ W : World, (Op.stringOp .add (bs dq) (bs [dc])).run Tryd.prog W = .ok (.string (bs (dq ++ [dc]))) W := by
        intro W
        rw [run_string_add_sum W _ _ (by rw [bs_size, bs_size]; simp; omega), bs_app]
      clear HQL
      have hcA : ∀ W : World, (convert 89 9 (.slice (some ⟨W.heap.size, 0, none⟩) 1 1)).run Tryd.prog (W.alloc (.cells #[.int .u8 (48 + (m : Int))] 5)) = .ok (.string (bs [dc])) (W.alloc (.cells #[.int .u8 (48 + (m : Int))] 5)) := fun W => HCV.out _ _ (Blk.new W _ _)
      have hcB : ∀ W : World, (convert 89 9 (.slice (some ⟨W.heap.size, 0, none⟩) 1 1)).run Tryd.prog (W.alloc (.cells #[.int .u8 (48 + (m : Int))] 5)).drew = .ok (.string (bs [dc])) (W.alloc (.cells #[.int .u8 (48 + (m : Int))] 5)).drew := fun W => HCV.out _ _ (Blk.new W _ _).drew
      have h0n : decide ((n : Int) < 0) = false := by simp
      clear ih hn h hm hq
      go_enter Tryd.func82, Tryd.ntmps82
      go_wp2
      go_region_with
        (first
          | (go_at_call 82; with_reducible refine (HI.out _).mono ?_; rintro e w1 ⟨rfl, hb1⟩; (first
            | (have HB2 : Hid (Below w.heap.size w w1) := (by with_reducible exact bel_d hb1); clear hb1)
            | (have HB2 : Hid (Below w.heap.size w w1) := (by with_reducible exact bel_ad hb1); have hc4 := HCV.out w1 w.heap.size (by with_reducible exact blk_ad hb1); clear hb1)
            | (have HB2 : Hid (Below w.heap.size w w1) := (by with_reducible exact bel_da hb1); have hc4 := HCV.out w1 w.heap.size (by with_reducible exact blk_da hb1); clear hb1)
            | skip)))
      all_goals go_wp2
      all_goals go_ret
      all_goals exact ⟨by rw [HD.out]; rfl, by first | exact HB2.out | exact HB2.out.alloc HB2.out.size _ | exact (HB2.out.alloc HB2.out.size _).drew⟩


end Go.Proofs.YtijafedpaghhaaaDoor
