/-
  SyntaxLexes: the law's walk.
-/
import Derived.Test.YtndpebkiiemfpaaGreatDoorHLm
import Derived.Test.YtndpebkiiemfpaaGreatDoorHLx
import Derived.BigQuiet
import Derived.Laws.StructEq
namespace Go.Proofs.YtndpebkiiemfpaaGreatDoor
open Go.RowKit Go.Shelf Go.Maps
set_option linter.unusedVariables false

theorem stoodF4 : Tryz.prog.stoodInHeld 35 = false := by kernel_rfl
theorem fieldsF4 : Tryz.prog.underlying 35 = some (.struct (Tryz.prog.fieldsOf 35)) := by kernel_rfl
set_option maxRecDepth 100000 in
theorem neFault4 (a a' b b' : Int) (W : World) : (binOp .neq 35 (.agg #[.int .i64 a, .int .i64 b]) (.agg #[.int .i64 a', .int .i64 b'])).run Tryz.prog W = .ok (.bool !((a == a') && (b == b'))) W := by
  rw [run_neq_struct, run_equalIn_struct W 9999 35 _ _ fieldsF4 stoodF4]
  simp [Program.fieldsOf, Tryz.underlying35, Op.eqFields, go_sem]
  by_cases h1 : a = a' <;> by_cases h2 : b = b' <;> simp [h1, h2]
set_option maxRecDepth 100000 in
set_option maxHeartbeats 4000000 in
theorem lexes_c (n : Nd) (o : Option Addr) (cap : Nat) (w : World) (hn : NdIn w w.heap.size n o cap) (hG : GOK w) : Calls Tryz.prog 3 #[.agg #[.int .i64 n.kind, .string (bs n.name), .int .i64 n.num, .slice o n.kids.length cap, .int .i64 n.pos]] w fun e w' => e = .returned (.bool true) ∧ Below w.heap.size w w' := by
  have hdep : Tryz.prog.follows Departure.mixedOrders = true := by kernel_rfl
  have hq2 := neFault4
  obtain ⟨V, hV⟩ : ∃ V, w.alloc (.cells #[.int .i64 n.kind, .string (bs n.name), .int .i64 n.num, .slice o n.kids.length cap, .int .i64 n.pos] 24) = V := ⟨_, rfl⟩
  have HV : Hid (w.alloc (.cells #[.int .i64 n.kind, .string (bs n.name), .int .i64 n.num, .slice o n.kids.length cap, .int .i64 n.pos] 24) = V) := hV
  have hb0 : Below w.heap.size w V := by rw [← hV]; exact (Below.refl _ _).alloc (Nat.le_refl _) _
  have hK0 : Blk V w.heap.size #[.int .i64 n.kind, .string (bs n.name), .int .i64 n.num, .slice o n.kids.length cap, .int .i64 n.pos] 24 := by rw [← hV]; exact Blk.new _ _ _
  have HK : Hid (∀ X, Below V.heap.size V X → Blk X w.heap.size #[.int .i64 n.kind, .string (bs n.name), .int .i64 n.num, .slice o n.kids.length cap, .int .i64 n.pos] 24) := fun X hX => hK0.below hX
  have HN : Hid (∀ X, Below w.heap.size w X → NdIn X X.heap.size n o cap) := fun X hX => (hn.below hX).mono hX.size
  have HG : Hid (∀ X, Below w.heap.size w X → GOK X) := fun X hX => hG.below hX
  have HB0 : Hid (Below w.heap.size w V) := hb0
  have HLv : Hid (∀ X, GOK X → Calls Tryz.prog 5 #[] X fun e W' => e = .returned (.bool true) ∧ Below X.heap.size X W') := fun X h => lives4_c X h
  clear hn hG hb0 hK0 hV
  go_enter Tryz.func3, Tryz.ntmps3
  go_wp2_with (go_at_call 5; fail)
  rw [HV.out]
  refine (HLv.out _ (HG.out _ HB0.out)).mono ?_
  rintro e w1 ⟨rfl, hb1⟩
  have HBv : Hid (Below V.heap.size V w1) := hb1
  have HB1 : Hid (Below w.heap.size w w1) := HB0.out.trans (hb1.mono HB0.out.size)
  have hk := HK.out w1 hb1
  have c0 := hk.cell 0 _ rfl
  have c1 := hk.cell 1 _ rfl
  have c2 := hk.cell 2 _ rfl
  have c3 := hk.cell 3 _ rfl
  have c4 := hk.cell 4 _ rfl
  clear hk hb1 HLv HV
  go_wp2_with (go_at_call 6; fail)
  refine (smallNode4_c 400 (by omega) 300 (by omega) n o cap w1 (HN.out w1 HB1.out)).mono ?_
  rintro e w2 ⟨sm, rfl, hsm, hb2⟩
  have HSM : Hid (sm = true → (nmA n : Int) ≤ 64 * 400) := hsm
  have HBv2 : Hid (Below V.heap.size V w2) := HBv.out.trans (hb2.mono HBv.out.size)
  have HB2 : Hid (Below w.heap.size w w2) := HB1.out.trans (hb2.mono HB1.out.size)
  clear hb2 hsm HBv HB1 c0 c1 c2 c3 c4
  cases sm with
  | false =>
    go_wp2
    go_ret
    exact ⟨rfl, HB2.out⟩
  | true =>
    have HM : Hid (nmA n ≤ 25600) := by have := HSM.out rfl; show _ ≤ _; omega
    have hk := HK.out w2 HBv2.out
    have c0 := hk.cell 0 _ rfl
    have c1 := hk.cell 1 _ rfl
    have c2 := hk.cell 2 _ rfl
    have c3 := hk.cell 3 _ rfl
    have c4 := hk.cell 4 _ rfl
    clear hk HSM
    go_wp2_with (go_at_call 7; fail)
    refine (checkS_c n o cap w2 (HN.out w2 HB2.out) (HG.out w2 HB2.out)).mono ?_
    rintro e w3 ⟨rfl, hb3⟩
    have HBv3 : Hid (Below V.heap.size V w3) := HBv2.out.trans (hb3.mono HBv2.out.size)
    have HB3 : Hid (Below w.heap.size w w3) := HB2.out.trans (hb3.mono HB2.out.size)
    clear hb3 HBv2 HB2 c0 c1 c2 c3 c4
    by_cases hck : chkM n = 0
    · obtain ⟨out, k, ht, hg, hk1, hl1, hl2⟩ := told_all n hck HM.out
      have HLx : Hid (∀ X, Below w.heap.size w X → Calls Tryz.prog 8 #[.agg #[.int .i64 n.kind, .string (bs n.name), .int .i64 n.num, .slice o n.kids.length cap, .int .i64 n.pos]] X fun e W' => ∃ o' cap', e = .returned (.tuple #[.slice o' out.length cap', .int .i64 0]) ∧ TkIn W' W'.heap.size o' out ∧ Below X.heap.size X W') := fun X hX => lexemes_c n o cap X (HN.out X hX) (HG.out X hX) hck out k hk1 hl1 ht
      have HTx : Hid (∀ X, Below w.heap.size w X → Calls Tryz.prog 9 #[.agg #[.int .i64 n.kind, .string (bs n.name), .int .i64 n.num, .slice o n.kids.length cap, .int .i64 n.pos]] X fun e W' => e = .returned (.tuple #[.string (bs (jnT out)), .int .i64 0]) ∧ Below X.heap.size X W') := fun X hX => textS_c n o cap X (HN.out X hX) (HG.out X hX) hck out k hk1 (fun t htt => ⟨(hg t htt).2.1, Nat.le_trans (hg t htt).2.2 (by omega)⟩) hl2 ht
      have HGd : Hid (GdL out) := hg
      rw [hck]
      have hk := HK.out w3 HBv3.out
      have c0 := hk.cell 0 _ rfl
      have c1 := hk.cell 1 _ rfl
      have c2 := hk.cell 2 _ rfl
      have c3 := hk.cell 3 _ rfl
      have c4 := hk.cell 4 _ rfl
      clear hk ht hg hk1 hl2 hck HM HN
      go_wp2_with (go_at_call 8; fail)
      refine (HLx.out w3 HB3.out).mono ?_
      rintro e w4 ⟨o', cap', rfl, htk, hb4⟩
      have HBv4 : Hid (Below V.heap.size V w4) := HBv3.out.trans (hb4.mono HBv3.out.size)
      have HB4 : Hid (Below w.heap.size w w4) := HB3.out.trans (hb4.mono HB3.out.size)
      have HTk : Hid (TkIn w4 w4.heap.size o' out) := htk
      have hk := HK.out w4 HBv4.out
      clear htk hb4 HB3 HBv3 c0 c1 c2 c3 c4 HLx
      have c0 := hk.cell 0 _ rfl
      have c1 := hk.cell 1 _ rfl
      have c2 := hk.cell 2 _ rfl
      have c3 := hk.cell 3 _ rfl
      have c4 := hk.cell 4 _ rfl
      clear hk
      go_wp2_with (go_at_call 9; fail)
      refine (HTx.out w4 HB4.out).mono ?_
      rintro e w5 ⟨rfl, hb5⟩
      have HB5 : Hid (Below w.heap.size w w5) := HB4.out.trans (hb5.mono HB4.out.size)
      have HT5 : Hid (TkIn w5 w4.heap.size o' out ∧ w4.heap.size ≤ w5.heap.size) := ⟨HTk.out.below hb5, hb5.size⟩
      clear hb5 HTk HTx HB4 HBv4 c0 c1 c2 c3 c4 HK HB0
      by_cases hj : 65536 < (jnT out).length
      · have hji : (65536 : Int) < ((bs (jnT out)).size : Int) := by rw [bs_size]; omega
        generalize bs (jnT out) = J at hji
        go_wp2
        go_ret
        exact ⟨rfl, HB5.out⟩
      · obtain ⟨hcj, ms, hms, hml, hmt⟩ := back4 out HGd.out (by omega)
        have hji : ((bs (jnT out)).size : Int) ≤ 65536 := by rw [bs_size]; omega
        have HA : Hid (∀ (w : World), GOK w → Calls Tryz.prog 10 #[.string (bs (jnT out))] w fun r W' => ∃ v, r = .returned (.tuple #[v, .agg #[.int .i64 0, .int .i64 0]]) ∧ Hid (W'.ownsRow w.heap.size 39 7 v ms.length (tksC ms)) ∧ Below w.heap.size w W') := fun w hG => all_inr (bs (jnT out)) ms (by rw [bs_size]; omega) hcj hms w hG
        have HEq : Hid (∀ k (h1 : k < out.length) (h2 : k < ms.length), out[k] = tkO ms[k].t) := hmt
        obtain ⟨m, hm⟩ : ∃ m, out.length = m := ⟨_, rfl⟩
        have HM : Hid (out.length = m) := hm
        have HM' : Hid (ms.length = m) := hml.trans hm
        have hm9 : m ≤ 1000000000 := by omega
        rw [hm]
        clear hcj hms hml hmt hj hl1 hm
        generalize bs (jnT out) = J at hji HA
        go_wp2_with (go_at_call 10; fail)
        refine (HA.out _ (HG.out _ HB5.out)).mono ?_
        rintro r w6 ⟨v, rfl, hrow, hb6⟩
        have HB6 : Hid (Below w.heap.size w w6) := HB5.out.trans (hb6.mono HB5.out.size)
        have HT6 : Hid (TkIn w6 w4.heap.size o' out ∧ w4.heap.size ≤ w6.heap.size) := ⟨HT5.out.1.below (hb6.mono HT5.out.2), Nat.le_trans HT5.out.2 hb6.size⟩
        have e2 : ∃ (o : Option Addr) (c : Nat), v = .slice o m c := by
          have h := hrow.out
          rw [HM'.out] at h
          rcases h with ⟨_, ⟨rfl, h0⟩ | ⟨g, cap, cur, h, _⟩⟩
          · exact ⟨none, 0, by rw [h0]⟩
          · exact ⟨_, cap, h⟩
        obtain ⟨o2, c2, rfl⟩ := e2
        clear hb6 HB5 HT5 HA
        go_wp2
        obtain ⟨W7, hW7⟩ : ∃ W7, W7 = w6.alloc (.cells #[.int .i64 0, .int .i64 0] 35) := ⟨_, rfl⟩
        have HB7 : Hid (Below w.heap.size w W7) := by rw [hW7]; exact HB6.out.alloc HB6.out.size _
        have hr7 : Hid (W7.ownsRow w5.heap.size 39 7 (.slice o2 m c2) ms.length (tksC ms)) := by rw [hW7]; exact hrow.out.alloc _
        have HT7 : Hid (TkIn W7 w4.heap.size o' out ∧ w4.heap.size ≤ W7.heap.size) := by
          rw [hW7]
          exact ⟨HT6.out.1.below ((Below.refl _ w6).alloc (Nat.le_refl _) _ |>.mono HT6.out.2), by have := HT6.out.2; simp; omega⟩
        rw [← hW7]
        clear hW7 hrow HT6 HB6 HG
        go_loopw [9] (fun i wr => ∃ k : Nat, k ≤ m ∧ i = .int .i64 k ∧ Hid (Below W7.heap.size W7 wr)) (fun i _ => m - (intOf i).toNat)
        case atStart => exact ⟨0, Nat.zero_le _, rfl, Below.refl _ _⟩
        case round =>
          obtain ⟨k, hk, rfl, hB⟩ := hrel
          by_cases hlt : k < m
          · have hkL : k < out.length := by rw [HM.out]; exact hlt
            have hkM : k < ms.length := by rw [HM'.out]; exact hlt
            have e1 : ∃ g off, o' = some ⟨g, off, none⟩ ∧ g < w4.heap.size ∧ TkAt W7 g off out := by
              rcases HT7.out.1 with h | h
              · rw [h] at hkL; cases hkL
              · exact h
            have e2 : ∃ g, o2 = some ⟨g, 0, none⟩ := by
              have h1 := hr7.out
              rw [HM'.out] at h1
              rcases h1 with ⟨_, ⟨h2, h0⟩ | ⟨g, cap', cur, h2, _⟩⟩
              · omega
              · simp only [Value.slice.injEq] at h2; exact ⟨g, h2.1⟩
            obtain ⟨g, off, rfl, hg4, hAt⟩ := e1
            obtain ⟨g', rfl⟩ := e2
            have hg : g < W7.heap.size := Nat.lt_of_lt_of_le hg4 HT7.out.2
            have hg' : g' < W7.heap.size := (hr7.out.lt g' rfl).2
            have hki : (k : Int) < (m : Int) := by omega
            have hk4 : (k : Int) ≤ 1000000000 := by omega
            have hcell := fun q u hu => (hB.out.cell (p := ⟨g, off + k * 7 + q, none⟩) hg).trans (hAt k hkL q u hu)
            have hcell' := fun q hq u hu => (hB.out.cell (p := ⟨g', k * 7 + q, none⟩) hg').trans (tks_cell HM'.out hr7.out k hkM q hq u hu)
            rw [HEq.out k hkL hkM] at hcell
            have a0 := hcell 0 _ rfl
            have d0 := hcell' 0 (by omega) _ rfl
            rw [Nat.add_zero] at a0 d0
            have a1 := hcell 1 _ rfl
            have a2 := hcell 2 _ rfl
            have d1 := hcell' 1 (by omega) _ rfl
            have d2 := hcell' 2 (by omega) _ rfl
            generalize ms[k].t = t at a0 a1 a2 d0 d1 d2
            obtain ⟨tk, tt, tn⟩ := t
            simp only [tkO] at a0 a1 a2 d0 d1 d2
            clear hcell hcell' hkL hkM HM HM' HEq hr7 HT7 HB7 hAt hg4 HGd
            go_wp2_with fail
            go_big_quiet (fail)
            go_wp2
            go_roundw
            case rel =>
              refine ⟨k + 1, by omega, by go_num, ?_⟩
              show Below _ _ _
              refine Below.trans hB.out ⟨rfl, rfl, rfl, Nat.le_refl _, fun _ _ => rfl⟩
            case measure => simp [intOf]; omega
          · obtain rfl : k = m := by omega
            go_wp2
            go_ret
            exact ⟨rfl, HB7.out.trans (hB.out.mono HB7.out.size)⟩
    · have hz : (chkM n == 0) = false := beq_eq_false_iff_ne.2 hck
      have hz2 : (chkM n != 0) = true := bne_iff_ne.2 hck
      generalize chkM n = ck at hz hz2 hck
      go_wp2
      go_ret
      exact ⟨rfl, HB3.out⟩
end Go.Proofs.YtndpebkiiemfpaaGreatDoor
