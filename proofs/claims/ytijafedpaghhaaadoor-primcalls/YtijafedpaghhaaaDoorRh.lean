/-
  The document's Show of any number, by contracts.
-/
import Derived.Test.YtijafedpaghhaaaDoorRg
namespace Go.Proofs.YtijafedpaghhaaaDoor
open Go.RowKit Go.Shelf Go.Maps
set_option linter.unusedVariables false

theorem shM_nat (n : Nat) : shM (n : Int) = bs (Lib.decDigits n) := by
  unfold shM Lib.itoa bs
  rw [if_neg (by omega)]
  simp
theorem shM_neg (n : Nat) (h : 0 < n) : shM (-(n : Int)) = bs (45 :: Lib.decDigits n) := by
  unfold shM Lib.itoa bs
  rw [if_pos (by omega)]
  simp
set_option maxRecDepth 100000 in
set_option maxHeartbeats 2000000 in
theorem rDig_c (n : Int) (wn : Lit.wf (.int .i64 n) = true) (w : World) : Calls Tryd.prog 82 #[.int .i64 n] w fun e w' => e = .returned (.string (shM n)) ∧ Below w.heap.size w w' := by
  have hn := wf64 wn
  by_cases h0 : n < 0
  · by_cases hm : n = -9223372036854775808
    · have HR : Hid (shM n = ⟨#[45, 57, 50, 50, 51, 51, 55, 50, 48, 51, 54, 56, 53, 52, 55, 55, 53, 56, 48, 56]⟩) := by show _ = _; rw [hm]; kernel_rfl
      have hmb : (n == -9223372036854775808) = true := by simpa using hm
      clear wn hn hm
      go_enter Tryd.func82, Tryd.ntmps82
      go_wp2
      go_ret
      exact ⟨by rw [HR.out]; rfl, Below.refl _ _⟩
    · obtain ⟨k, hk⟩ : ∃ k : Nat, n = -(k : Int) := ⟨n.natAbs, by omega⟩
      have hkp : 0 < k := by omega
      have HR : Hid (shM n = bs (45 :: Lib.decDigits k)) := by show _ = _; rw [hk]; exact shM_neg k hkp
      have HC : Hid (∀ W : World, Calls Tryd.prog 82 #[.int .i64 (k : Int)] W fun e w' => e = .returned (.string (bs (Lib.decDigits k))) ∧ Below W.heap.size W w') := fun W => rDigits_c k (by omega) W
      have HL : (Lib.decDigits k).length ≤ 20 := decD_len 19 k (by omega)
      have hmb : (n == -9223372036854775808) = false := by simpa using hm
      have hneg : -n = (k : Int) := by omega
      generalize Lib.decDigits k = dq at HC HR HL
      have hadd : ∀ W : World, (Op.stringOp .add (bs [45]) (bs dq)).run Tryd.prog W = .ok (.string (bs (45 :: dq))) W := by
        intro W
        rw [run_string_add_sum W _ _ (by rw [bs_size, bs_size]; simp; omega), bs_app]
        rfl
      have hadd2 : ∀ W : World, (Op.stringOp .add ⟨#[45]⟩ (bs dq)).run Tryd.prog W = .ok (.string (bs (45 :: dq))) W := hadd
      have hlo : -9223372036854775807 ≤ n := by omega
      have hlo2 : n ≤ 0 := by omega
      clear wn hn hm hk hkp HL hadd
      go_enter Tryd.func82, Tryd.ntmps82
      go_wp2_with (go_at_call 82; refine (HC.out _).mono ?_; rintro e w1 ⟨rfl, hb⟩)
      go_ret
      exact ⟨by rw [HR.out]; rfl, hb⟩
  · obtain ⟨k, rfl⟩ : ∃ k : Nat, n = (k : Int) := ⟨n.toNat, by omega⟩
    rw [shM_nat]
    exact rDigits_c k (by omega) w
set_option maxRecDepth 100000 in
set_option maxHeartbeats 2000000 in
theorem rtext_c (n : Int) (wn : Lit.wf (.int .i64 n) = true) (w : World) : Calls Tryd.prog 63 #[exN n] w fun e w' => e = .returned (.string (shM n)) ∧ Below w.heap.size w w' := by
  have HC : Hid (∀ W : World, Calls Tryd.prog 82 #[.int .i64 n] W fun e w' => e = .returned (.string (shM n)) ∧ Below W.heap.size W w') := fun W => rDig_c n wn W
  clear wn
  simp only [exN]
  go_enter Tryd.func63, Tryd.ntmps63
  go_wp2_with (go_at_call 82; fail)
  refine (HC.out _).mono ?_
  rintro e w1 ⟨rfl, hb⟩
  have HB : Hid (Below w.heap.size w w1) := (below1 w _).trans (hb.mono (by simp))
  clear hb
  go_wp2
  go_ret
  exact ⟨rfl, HB.out⟩
set_option maxRecDepth 100000 in
set_option maxHeartbeats 2000000 in
theorem rText_c (n : Int) (wn : Lit.wf (.int .i64 n) = true) (w : World) : Calls Tryd.prog 36 #[exN n] w fun e w' => e = .returned (.string (shM n)) ∧ Below w.heap.size w w' := by
  have HT : Hid (∀ W : World, Calls Tryd.prog 63 #[.agg #[.int .i64 2, .string ⟨#[]⟩, .int .i64 n, .slice none 0 0, .slice none 0 0, .slice none 0 0, .slice none 0 0]] W fun e w' => e = .returned (.string (shM n)) ∧ Below W.heap.size W w') := fun W => rtext_c n wn W
  have HL : Hid (∀ W : World, Calls Tryd.prog 62 #[.agg #[.int .i64 2, .string ⟨#[]⟩, .int .i64 n, .slice none 0 0, .slice none 0 0, .slice none 0 0, .slice none 0 0]] W fun e w' => e = .returned (.bool false) ∧ Below W.heap.size W w') := fun W => long_c n W
  clear wn
  simp only [exN]
  go_enter Tryd.func36, Tryd.ntmps36
  go_wp2_with (go_at_call 62; fail)
  refine (HL.out _).mono ?_
  rintro e w1 ⟨rfl, hb⟩
  have HB : Hid (Below w.heap.size w w1) := (below1 w _).trans (hb.mono (by simp))
  have HK : Hid (Blk w1 w.heap.size #[.int .i64 2, .string ⟨#[]⟩, .int .i64 n, .slice none 0 0, .slice none 0 0, .slice none 0 0, .slice none 0 0] 66) := (Blk.new w _ _).below hb
  clear hb
  have c0 := HK.out.cell 0 _ rfl
  have c1 := HK.out.cell 1 _ rfl
  have c2 := HK.out.cell 2 _ rfl
  have c3 := HK.out.cell 3 _ rfl
  have c4 := HK.out.cell 4 _ rfl
  have c5 := HK.out.cell 5 _ rfl
  have c6 := HK.out.cell 6 _ rfl
  have hl := HK.out.lt
  go_wp2_with (go_at_call 63; fail)
  refine (HT.out _).mono ?_
  rintro e w2 ⟨rfl, hb⟩
  have HB2 : Hid (Below w.heap.size w w2) := HB.out.trans (hb.mono HB.out.size)
  clear hb
  go_wp2
  go_ret
  exact ⟨rfl, HB2.out⟩
set_option maxRecDepth 100000 in
set_option maxHeartbeats 2000000 in
theorem rShow_c (n : Int) (wn : Lit.wf (.int .i64 n) = true) (w : World) : Calls Tryd.prog 18 #[.int .i64 n] w fun e w' => e = .returned (.string (shM n)) ∧ Below w.heap.size w w' := by
  have HT : Hid (∀ W : World, Calls Tryd.prog 36 #[.agg #[.int .i64 2, .string ⟨#[]⟩, .int .i64 n, .slice none 0 0, .slice none 0 0, .slice none 0 0, .slice none 0 0]] W fun e w' => e = .returned (.string (shM n)) ∧ Below W.heap.size W w') := fun W => rText_c n wn W
  clear wn
  go_enter Tryd.func18, Tryd.ntmps18
  go_wp2_with (go_at_call 36; refine (HT.out _).mono ?_; rintro e w1 ⟨rfl, hb⟩)
  go_ret
  exact ⟨rfl, hb⟩
end Go.Proofs.YtijafedpaghhaaaDoor
