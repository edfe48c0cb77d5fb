/-
  The library's heap: up, by a contract.
-/
import Derived.Test.YtkkpkcigflikkaaKd
namespace Go.Proofs.Ytkkpkcigflikkaa
open Go.RowKit Go.Shelf Go.Maps G
set_option linter.unusedVariables false
theorem par_div (j : Nat) : Int.tdiv ((j : Int) - 1) 2 = ((par j : Nat) : Int) := by
  unfold par
  rcases Nat.eq_zero_or_pos j with h | h
  · subst h; decide
  · obtain ⟨k, rfl⟩ : ∃ k, j = k + 1 := ⟨j - 1, by omega⟩
    have : ((k + 1 : Nat) : Int) - 1 = (k : Int) := by omega
    rw [this, Int.tdiv_eq_ediv_of_nonneg (by omega)]
    omega
set_option maxHeartbeats 4000000 in
set_option maxRecDepth 100000 in
theorem up_c (T : Nat) (v : Value) (l : List Nat) (j : Nat) (hl : l.length ≤ 100000) (hj : j < l.length) (hU : UpI l l.length j) (w : World) (h : TurnAt w T v l) : Calls Try.prog 45 #[.iface 69 (.pointer (some ⟨T, 0, none⟩)), .int .i64 (j : Int)] w fun r W' => r = .returned (.tuple #[]) ∧ (∃ l', TurnAt W' T v l' ∧ l'.Perm l ∧ Hp l' l'.length) ∧ Below (T + 1) w W' ∧ Fr T v w W' v := by
  have n1 := nilLess
  have n2 := nilSwap
  have HT : Hid (TurnAt w T v l ∧ UpI l l.length j ∧ l.length ≤ 100000 ∧ j < l.length) := ⟨h, hU, hl, hj⟩
  have hji : (j : Int) ≤ 100000 := by omega
  clear h hU hl hj
  go_enter Try.func45, Try.ntmps45
  go_wp2
  go_loopw [1] (fun v1 wr => ∃ (j : Nat) (m : List Nat), v1 = .int .i64 (j : Int) ∧ Hid (j < m.length ∧ TurnAt wr T v m ∧ UpI m m.length j ∧ m.Perm l ∧ Below (T + 1) w wr ∧ Fr T v w wr v)) (fun v _ => (intOf v).toNat)
  case atStart => exact ⟨j, l, rfl, ⟨HT.out.2.2.2, HT.out.1, HT.out.2.1, .refl _, Below.refl _ _, Fr.refl _ _ _⟩⟩
  case round =>
    obtain ⟨k, m, rfl, HI⟩ := hrel
    have hml : m.length = l.length := HI.out.2.2.2.1.length_eq
    have hkl : (k : Int) ≤ 100000 := by have := HT.out.2.2.1; have := HI.out.1; omega
    have hq := par_div k
    have bT := HI.out.2.1.b.cell 0 _ rfl
    have lT := HI.out.2.1.b.lt
    have hm1 := methLess bT
    have hm2 := methSwap bT
    by_cases hk0 : k = 0
    · subst hk0
      go_wp2
      go_end0
      exact ⟨rfl, ⟨m, HI.out.2.1, HI.out.2.2.2.1, HI.out.2.2.1.zero⟩, HI.out.2.2.2.2.1, HI.out.2.2.2.2.2⟩
    · have hpk := par_lt (j := k) (by omega)
      obtain ⟨i, hi⟩ : ∃ i, par k = i := ⟨_, rfl⟩
      rw [hi] at hq hpk
      have hki : ((i : Int) == (k : Int)) = false := by simp; omega
      have hLs := hLess_c T v m k i HI.out.1 (by have := HI.out.1; omega) wr HI.out.2.1
      have HLs : Hid (Calls Try.prog 88 #[v, .int .i64 (k : Int), .int .i64 (i : Int)] wr fun r W' => r = .returned (.bool (decide (m.getD k 0 < m.getD i 0))) ∧ TurnAt W' T v m ∧ Below wr.heap.size wr W') := hLs
      have HK : Hid (par k = i ∧ i < k ∧ 0 < k) := ⟨hi, hpk, by omega⟩
      clear hLs hi hk0 hm1 hm2
      have hm1 := methLess bT
      go_wp2_with (go_at_call 88; fail)
      refine HLs.out.mono ?_
      rintro e w2 ⟨rfl, ht2, hb2⟩
      have HT2 : Hid (TurnAt w2 T v m ∧ Below wr.heap.size wr w2) := ⟨ht2, hb2⟩
      have bT2 := ht2.b.cell 0 _ rfl
      have lT2 := ht2.b.lt
      have hm2 := methSwap bT2
      clear hm1 ht2 hb2 HLs
      by_cases hls : m.getD k 0 < m.getD i 0
      · have HLe : Hid (m.getD k 0 < m.getD i 0) := hls
        have hd : decide (m.getD k 0 < m.getD i 0) = true := by simpa using hls
        rw [hd]
        have hSw := hSwap_c T v m i k (by have := HI.out.1; have := HK.out; omega) HI.out.1 w2 HT2.out.1
        have HSw : Hid (Calls Try.prog 90 #[v, .int .i64 (i : Int), .int .i64 (k : Int)] w2 fun r W' => r = .returned (.tuple #[]) ∧ TurnAt W' T v (sw m i k) ∧ Below (T + 1) w2 W' ∧ Fr T v w2 W' v) := hSw
        clear hSw hls hd
        go_wp2_with (go_at_call 90; fail)
        refine HSw.out.mono ?_
        rintro e w3 ⟨rfl, ht3, hb3⟩
        have HT3 : Hid (TurnAt w3 T v (sw m i k) ∧ Below (T + 1) w2 w3 ∧ Fr T v w2 w3 v) := ⟨ht3, hb3.1, hb3.2⟩
        clear ht3 hb3 HSw
        go_wp2
        have hi := HK.out.1
        have hU := HI.out.2.2.1.step (Nat.le_refl _) HK.out.2.2 HI.out.1 (by rw [hi]; exact HLe.out)
        rw [hi] at hU
        refine ⟨⟨i, sw m i k, rfl, ⟨by rw [sw_len]; have := HI.out.1; have := HK.out; omega, HT3.out.1, by rw [sw_len]; exact hU, (sw_perm m i k (by have := HI.out.1; have := HK.out; omega) HI.out.1).trans HI.out.2.2.2.1, HI.out.2.2.2.2.1.trans ((HT2.out.2.mono (by have := HI.out.2.1.b.lt; omega)).trans HT3.out.2.1), HI.out.2.2.2.2.2.trans ((Fr.below HT2.out.2).trans HT3.out.2.2)⟩⟩, ?_⟩
        show ((i : Int)).toNat < ((k : Int)).toNat
        have := HK.out; omega
      · have HLe : Hid (¬ m.getD k 0 < m.getD i 0) := hls
        have hd : decide (m.getD k 0 < m.getD i 0) = false := by simpa using hls
        rw [hd]
        clear hls hd
        go_wp2
        go_end0
        exact ⟨rfl, ⟨m, HT2.out.1, HI.out.2.2.2.1, HI.out.2.2.1.done (by rw [HK.out.1]; exact HLe.out)⟩, HI.out.2.2.2.2.1.trans (HT2.out.2.mono (by have := HI.out.2.1.b.lt; omega)), HI.out.2.2.2.2.2.trans (Fr.below HT2.out.2)⟩
end Go.Proofs.Ytkkpkcigflikkaa
