/-
  The library's heap: down, by a contract.
-/
import Derived.Test.YtkkpkcigflikkaaKe
namespace Go.Proofs.Ytkkpkcigflikkaa
open Go.RowKit Go.Shelf Go.Maps G
set_option linter.unusedVariables false
/-- How down stands. -/
structure DnS (w : World) (T : Nat) (v : Value) (l : List Nat) (n i : Nat) (wr : World) (m : List Nat) : Prop where
  t : TurnAt wr T v m
  d : DnI m n i
  p : m.Perm l
  z : m.getD n 0 = l.getD n 0
  b : Below (T + 1) w wr
  fr : Fr T v w wr v
theorem DnS.swap {w wr w2 w3 : World} {T : Nat} {v : Value} {l m : List Nat} {n i j : Nat} (h : DnS w T v l n i wr m) (hn : n < m.length) (h0 : 0 < j) (hj : j < n) (hp : par j = i) (hm : ∀ k, 0 < k → k < n → par k = i → m.getD j 0 ≤ m.getD k 0) (hl : m.getD j 0 < m.getD i 0) (hb : Below (T + 1) wr w2) (ht : TurnAt w3 T v (sw m i j)) (hb2 : Below (T + 1) w2 w3) (hf1 : Fr T v wr w2 v) (hf2 : Fr T v w2 w3 v) : DnS w T v l n j w3 (sw m i j) := by
  have hij : i < j := by rw [← hp]; exact par_lt h0
  refine ⟨ht, h.d.step (by omega) h0 hj hp hm hl, (sw_perm m i j (by omega) (by omega)).trans h.p, ?_, h.b.trans (hb.trans hb2), h.fr.trans (hf1.trans hf2)⟩
  rw [sw_at m i j n (by omega) (by omega), if_neg (by omega), if_neg (by omega)]
  exact h.z
def DnPost (w : World) (T : Nat) (v : Value) (l : List Nat) (n : Nat) (W' : World) : Prop := (∃ m, TurnAt W' T v m ∧ m.Perm l ∧ Hp m n ∧ m.getD n 0 = l.getD n 0) ∧ Below (T + 1) w W' ∧ Fr T v w W' v
set_option maxHeartbeats 8000000 in
set_option maxRecDepth 100000 in
theorem down_c (T : Nat) (v : Value) (l : List Nat) (n : Nat) (hl : l.length = n + 1) (hn : n ≤ 100000) (hD : DnI l n 0) (w : World) (h : TurnAt w T v l) : Calls Try.prog 46 #[.iface 69 (.pointer (some ⟨T, 0, none⟩)), .int .i64 0, .int .i64 (n : Int)] w fun r W' => (∃ b, r = .returned (.bool b)) ∧ DnPost w T v l n W' := by
  have n1 := nilLess
  have n2 := nilSwap
  have HN : Hid (l.length = n + 1 ∧ n ≤ 100000) := ⟨hl, hn⟩
  have hni : (n : Int) ≤ 100000 := by omega
  have H0 : Hid (DnS w T v l n 0 w l) := ⟨h, hD, .refl _, rfl, Below.refl _ _, Fr.refl _ _ _⟩
  clear h hD hl hn
  go_enter Try.func46, Try.ntmps46
  go_wp2
  go_loopw [7] (fun v1 wr => ∃ (i : Nat) (m : List Nat), v1 = .int .i64 (i : Int) ∧ Hid (i ≤ n ∧ DnS w T v l n i wr m)) (fun v _ => n - (intOf v).toNat)
  case atStart => exact ⟨0, l, rfl, ⟨Nat.zero_le _, H0.out⟩⟩
  case round =>
    obtain ⟨i, m, rfl, HI⟩ := hrel
    have hml : m.length = n + 1 := HI.out.2.p.length_eq.trans HN.out.1
    have hii : (i : Int) ≤ 100000 := by have := HI.out.1; have := HN.out.2; omega
    have bT := HI.out.2.t.b.cell 0 _ rfl
    have lT := HI.out.2.t.b.lt
    have hm1 := methLess bT
    obtain ⟨j1, hj1⟩ : ∃ j1 : Nat, j1 = 2 * i + 1 := ⟨_, rfl⟩
    have hj1i : 2 * (i : Int) + 1 = (j1 : Int) := by omega
    have HM : Hid (m.length = n + 1 ∧ j1 = 2 * i + 1) := ⟨hml, hj1⟩
    by_cases hleaf : n ≤ j1
    · have HLf : Hid (n ≤ j1) := hleaf
      have hle : (n : Int) ≤ 2 * (i : Int) + 1 := by omega
      clear hml hj1
      go_wp2
      go_ret
      exact ⟨⟨_, rfl⟩, ⟨m, HI.out.2.t, HI.out.2.p, HI.out.2.d.leaf (by have := HM.out.2; have := HLf.out; omega), HI.out.2.z⟩, HI.out.2.b, HI.out.2.fr⟩
    · have hlt : ¬ (n : Int) ≤ 2 * (i : Int) + 1 := by omega
      have hlt2 : 2 * (i : Int) + 1 < (n : Int) := by omega
      have HJ : Hid (j1 < n) := by show _ < _; omega
      clear hml hj1 hleaf
      obtain ⟨j2, hj2e⟩ : ∃ j2 : Nat, j2 = j1 + 1 := ⟨_, rfl⟩
      have hj2c : (j1 : Int) + 1 = (j2 : Int) := by omega
      have HJ2 : Hid (j2 = j1 + 1) := hj2e
      have hj1n : (j1 : Int) < (n : Int) := by have := HJ.out; omega
      have hj1m : ¬ (n : Int) ≤ (j1 : Int) := by omega
      have hj1p : ¬ (j1 : Int) < 0 := by omega
      by_cases hj2 : j2 < n
      · have hj2i : (j2 : Int) < (n : Int) := by omega
        have HJ3 : Hid (j2 < n) := hj2
        have hL2 := hLess_c T v m j2 j1 (by have := HM.out; omega) (by have := HM.out; have := HJ.out; omega) wr HI.out.2.t
        have HL2 : Hid (Calls Try.prog 88 #[v, .int .i64 (j2 : Int), .int .i64 (j1 : Int)] wr fun r W' => r = .returned (.bool (decide (m.getD j2 0 < m.getD j1 0))) ∧ TurnAt W' T v m ∧ Below wr.heap.size wr W') := hL2
        clear hL2 hj2e hj2
        go_wp2_with (go_at_call 88; fail)
        refine HL2.out.mono ?_
        rintro e w2 ⟨rfl, ht2, hb2⟩
        have HT2 : Hid (TurnAt w2 T v m ∧ Below (T + 1) wr w2 ∧ Fr T v wr w2 v) := ⟨ht2, hb2.mono (by have := HI.out.2.t.b.lt; omega), Fr.below hb2⟩
        clear ht2 hb2 HL2 hm1 bT
        by_cases hd2 : m.getD j2 0 < m.getD j1 0
        · have HD2 : Hid (m.getD j2 0 < m.getD j1 0) := hd2
          have hdd : decide (m.getD j2 0 < m.getD j1 0) = true := by simpa using hd2
          rw [hdd]
          clear hd2 hdd
          have HMn : Hid (0 < j2 ∧ j2 < n ∧ par j2 = i ∧ (∀ k, 0 < k → k < n → par k = i → m.getD j2 0 ≤ m.getD k 0)) := ⟨by have := HJ2.out; omega, HJ3.out, by rw [par_iff (by have := HJ2.out; omega)]; have := HM.out; have := HJ2.out; omega, fun k h1 h2 h3 => by
                      rw [par_iff h1] at h3
                      have h7 := HM.out
                      have h8 := HJ2.out
                      rcases h3 with h3 | h3
                      · rw [show k = j1 by omega]; exact Nat.le_of_lt HD2.out
                      · rw [show k = j2 by omega]; exact Nat.le_refl _⟩
          have bT3 := HT2.out.1.b.cell 0 _ rfl
          have hm3 := methLess bT3
          have lT3 := HT2.out.1.b.lt
          have hLi := hLess_c T v m j2 i (by have := HMn.out; have := HM.out; omega) (by have := HI.out.1; have := HM.out; omega) w2 HT2.out.1
          have HLi : Hid (Calls Try.prog 88 #[v, .int .i64 (j2 : Int), .int .i64 (i : Int)] w2 fun r W' => r = .returned (.bool (decide (m.getD j2 0 < m.getD i 0))) ∧ TurnAt W' T v m ∧ Below w2.heap.size w2 W') := hLi
          clear hLi
          go_wp2_with (go_at_call 88; fail)
          refine HLi.out.mono ?_
          rintro e w4 ⟨rfl, ht4, hb4⟩
          have HT4 : Hid (TurnAt w4 T v m ∧ Below (T + 1) wr w4 ∧ Fr T v wr w4 v) := ⟨ht4, HT2.out.2.1.trans (hb4.mono (by have := HT2.out.1.b.lt; omega)), HT2.out.2.2.trans (Fr.below hb4)⟩
          have bT4 := ht4.b.cell 0 _ rfl
          have lT4 := ht4.b.lt
          have hm4 := methSwap bT4
          clear hm3 bT3 lT3 ht4 hb4 HLi
          by_cases hls : m.getD j2 0 < m.getD i 0
          · have HLe : Hid (m.getD j2 0 < m.getD i 0) := hls
            have hd : decide (m.getD j2 0 < m.getD i 0) = true := by simpa using hls
            rw [hd]
            have hSw := hSwap_c T v m i j2 (by have := HI.out.1; have := HM.out; omega) (by have := HMn.out; have := HM.out; omega) w4 HT4.out.1
            have HSw : Hid (Calls Try.prog 90 #[v, .int .i64 (i : Int), .int .i64 (j2 : Int)] w4 fun r W' => r = .returned (.tuple #[]) ∧ TurnAt W' T v (sw m i j2) ∧ Below (T + 1) w4 W' ∧ Fr T v w4 W' v) := hSw
            clear hSw hls hd
            go_wp2_with (go_at_call 90; fail)
            refine HSw.out.mono ?_
            rintro e w5 ⟨rfl, ht5, hb5⟩
            have HT5 : Hid (TurnAt w5 T v (sw m i j2) ∧ Below (T + 1) w4 w5 ∧ Fr T v w4 w5 v) := ⟨ht5, hb5.1, hb5.2⟩
            clear ht5 hb5 HSw
            go_wp2
            have h9 := HMn.out
            have h8 := HM.out
            refine ⟨⟨j2, sw m i j2, rfl, ⟨by omega, HI.out.2.swap (by omega) h9.1 h9.2.1 h9.2.2.1 h9.2.2.2 HLe.out HT4.out.2.1 HT5.out.1 HT5.out.2.1 HT4.out.2.2 HT5.out.2.2⟩⟩, ?_⟩
            show n - ((j2 : Int)).toNat < n - ((i : Int)).toNat
            have hpj := par_lt h9.1
            rw [h9.2.2.1] at hpj
            omega
          · have HLe : Hid (¬ m.getD j2 0 < m.getD i 0) := hls
            have hd : decide (m.getD j2 0 < m.getD i 0) = false := by simpa using hls
            rw [hd]
            clear hls hd
            go_wp2
            go_ret
            exact ⟨⟨_, rfl⟩, ⟨m, HT4.out.1, HI.out.2.p, HI.out.2.d.done HMn.out.2.2.2 HLe.out, HI.out.2.z⟩, HI.out.2.b.trans HT4.out.2.1, HI.out.2.fr.trans HT4.out.2.2⟩
        · have HD2 : Hid (¬ m.getD j2 0 < m.getD j1 0) := hd2
          have hdd : decide (m.getD j2 0 < m.getD j1 0) = false := by simpa using hd2
          rw [hdd]
          clear hd2 hdd
          have HMn : Hid (0 < j1 ∧ j1 < n ∧ par j1 = i ∧ (∀ k, 0 < k → k < n → par k = i → m.getD j1 0 ≤ m.getD k 0)) := ⟨by have := HM.out; omega, by have := HJ.out; omega, by rw [par_iff (by have := HM.out; omega)]; have := HM.out; omega, fun k h1 h2 h3 => by
                      rw [par_iff h1] at h3
                      have h7 := HM.out
                      rcases h3 with h3 | h3
                      · rw [show k = j1 by omega]; exact Nat.le_refl _
                      · rw [show k = j2 by have := HJ2.out; omega]; have := HD2.out; omega⟩
          have bT3 := HT2.out.1.b.cell 0 _ rfl
          have hm3 := methLess bT3
          have lT3 := HT2.out.1.b.lt
          have hLi := hLess_c T v m j1 i (by have := HMn.out; have := HM.out; omega) (by have := HI.out.1; have := HM.out; omega) w2 HT2.out.1
          have HLi : Hid (Calls Try.prog 88 #[v, .int .i64 (j1 : Int), .int .i64 (i : Int)] w2 fun r W' => r = .returned (.bool (decide (m.getD j1 0 < m.getD i 0))) ∧ TurnAt W' T v m ∧ Below w2.heap.size w2 W') := hLi
          clear hLi
          go_wp2_with (go_at_call 88; fail)
          refine HLi.out.mono ?_
          rintro e w4 ⟨rfl, ht4, hb4⟩
          have HT4 : Hid (TurnAt w4 T v m ∧ Below (T + 1) wr w4 ∧ Fr T v wr w4 v) := ⟨ht4, HT2.out.2.1.trans (hb4.mono (by have := HT2.out.1.b.lt; omega)), HT2.out.2.2.trans (Fr.below hb4)⟩
          have bT4 := ht4.b.cell 0 _ rfl
          have lT4 := ht4.b.lt
          have hm4 := methSwap bT4
          clear hm3 bT3 lT3 ht4 hb4 HLi
          by_cases hls : m.getD j1 0 < m.getD i 0
          · have HLe : Hid (m.getD j1 0 < m.getD i 0) := hls
            have hd : decide (m.getD j1 0 < m.getD i 0) = true := by simpa using hls
            rw [hd]
            have hSw := hSwap_c T v m i j1 (by have := HI.out.1; have := HM.out; omega) (by have := HMn.out; have := HM.out; omega) w4 HT4.out.1
            have HSw : Hid (Calls Try.prog 90 #[v, .int .i64 (i : Int), .int .i64 (j1 : Int)] w4 fun r W' => r = .returned (.tuple #[]) ∧ TurnAt W' T v (sw m i j1) ∧ Below (T + 1) w4 W' ∧ Fr T v w4 W' v) := hSw
            clear hSw hls hd
            go_wp2_with (go_at_call 90; fail)
            refine HSw.out.mono ?_
            rintro e w5 ⟨rfl, ht5, hb5⟩
            have HT5 : Hid (TurnAt w5 T v (sw m i j1) ∧ Below (T + 1) w4 w5 ∧ Fr T v w4 w5 v) := ⟨ht5, hb5.1, hb5.2⟩
            clear ht5 hb5 HSw
            go_wp2
            have h9 := HMn.out
            have h8 := HM.out
            refine ⟨⟨j1, sw m i j1, rfl, ⟨by omega, HI.out.2.swap (by omega) h9.1 h9.2.1 h9.2.2.1 h9.2.2.2 HLe.out HT4.out.2.1 HT5.out.1 HT5.out.2.1 HT4.out.2.2 HT5.out.2.2⟩⟩, ?_⟩
            show n - ((j1 : Int)).toNat < n - ((i : Int)).toNat
            have hpj := par_lt h9.1
            rw [h9.2.2.1] at hpj
            omega
          · have HLe : Hid (¬ m.getD j1 0 < m.getD i 0) := hls
            have hd : decide (m.getD j1 0 < m.getD i 0) = false := by simpa using hls
            rw [hd]
            clear hls hd
            go_wp2
            go_ret
            exact ⟨⟨_, rfl⟩, ⟨m, HT4.out.1, HI.out.2.p, HI.out.2.d.done HMn.out.2.2.2 HLe.out, HI.out.2.z⟩, HI.out.2.b.trans HT4.out.2.1, HI.out.2.fr.trans HT4.out.2.2⟩
      · have hj2i : ¬ (j2 : Int) < (n : Int) := by omega
        have HJ3 : Hid (¬ j2 < n) := hj2
        have HT2 : Hid (TurnAt wr T v m ∧ Below (T + 1) wr wr ∧ Fr T v wr wr v) := ⟨HI.out.2.t, Below.refl _ _, Fr.refl _ _ _⟩
        clear hj2e hj2 hm1
        have HMn : Hid (0 < j1 ∧ j1 < n ∧ par j1 = i ∧ (∀ k, 0 < k → k < n → par k = i → m.getD j1 0 ≤ m.getD k 0)) := ⟨by have := HM.out; omega, by have := HJ.out; omega, by rw [par_iff (by have := HM.out; omega)]; have := HM.out; omega, fun k h1 h2 h3 => by
                  rw [par_iff h1] at h3
                  have h7 := HM.out
                  rcases h3 with h3 | h3
                  · rw [show k = j1 by omega]; exact Nat.le_refl _
                  · have := HJ2.out; have := HJ3.out; omega⟩
        have bT3 := HT2.out.1.b.cell 0 _ rfl
        have hm3 := methLess bT3
        have lT3 := HT2.out.1.b.lt
        have hLi := hLess_c T v m j1 i (by have := HMn.out; have := HM.out; omega) (by have := HI.out.1; have := HM.out; omega) wr HT2.out.1
        have HLi : Hid (Calls Try.prog 88 #[v, .int .i64 (j1 : Int), .int .i64 (i : Int)] wr fun r W' => r = .returned (.bool (decide (m.getD j1 0 < m.getD i 0))) ∧ TurnAt W' T v m ∧ Below wr.heap.size wr W') := hLi
        clear hLi
        go_wp2_with (go_at_call 88; fail)
        refine HLi.out.mono ?_
        rintro e w4 ⟨rfl, ht4, hb4⟩
        have HT4 : Hid (TurnAt w4 T v m ∧ Below (T + 1) wr w4 ∧ Fr T v wr w4 v) := ⟨ht4, HT2.out.2.1.trans (hb4.mono (by have := HT2.out.1.b.lt; omega)), HT2.out.2.2.trans (Fr.below hb4)⟩
        have bT4 := ht4.b.cell 0 _ rfl
        have lT4 := ht4.b.lt
        have hm4 := methSwap bT4
        clear hm3 bT3 lT3 ht4 hb4 HLi
        by_cases hls : m.getD j1 0 < m.getD i 0
        · have HLe : Hid (m.getD j1 0 < m.getD i 0) := hls
          have hd : decide (m.getD j1 0 < m.getD i 0) = true := by simpa using hls
          rw [hd]
          have hSw := hSwap_c T v m i j1 (by have := HI.out.1; have := HM.out; omega) (by have := HMn.out; have := HM.out; omega) w4 HT4.out.1
          have HSw : Hid (Calls Try.prog 90 #[v, .int .i64 (i : Int), .int .i64 (j1 : Int)] w4 fun r W' => r = .returned (.tuple #[]) ∧ TurnAt W' T v (sw m i j1) ∧ Below (T + 1) w4 W' ∧ Fr T v w4 W' v) := hSw
          clear hSw hls hd
          go_wp2_with (go_at_call 90; fail)
          refine HSw.out.mono ?_
          rintro e w5 ⟨rfl, ht5, hb5⟩
          have HT5 : Hid (TurnAt w5 T v (sw m i j1) ∧ Below (T + 1) w4 w5 ∧ Fr T v w4 w5 v) := ⟨ht5, hb5.1, hb5.2⟩
          clear ht5 hb5 HSw
          go_wp2
          have h9 := HMn.out
          have h8 := HM.out
          refine ⟨⟨j1, sw m i j1, rfl, ⟨by omega, HI.out.2.swap (by omega) h9.1 h9.2.1 h9.2.2.1 h9.2.2.2 HLe.out HT4.out.2.1 HT5.out.1 HT5.out.2.1 HT4.out.2.2 HT5.out.2.2⟩⟩, ?_⟩
          show n - ((j1 : Int)).toNat < n - ((i : Int)).toNat
          have hpj := par_lt h9.1
          rw [h9.2.2.1] at hpj
          omega
        · have HLe : Hid (¬ m.getD j1 0 < m.getD i 0) := hls
          have hd : decide (m.getD j1 0 < m.getD i 0) = false := by simpa using hls
          rw [hd]
          clear hls hd
          go_wp2
          go_ret
          exact ⟨⟨_, rfl⟩, ⟨m, HT4.out.1, HI.out.2.p, HI.out.2.d.done HMn.out.2.2.2 HLe.out, HI.out.2.z⟩, HI.out.2.b.trans HT4.out.2.1, HI.out.2.fr.trans HT4.out.2.2⟩
end Go.Proofs.Ytkkpkcigflikkaa
