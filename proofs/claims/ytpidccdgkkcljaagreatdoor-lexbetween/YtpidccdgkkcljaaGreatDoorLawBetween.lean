/-
  The law LexBetween, walked.
-/
import Derived.Test.YtpidccdgkkcljaaGreatDoorLives2
import Derived.Test.YtpidccdgkkcljaaGreatDoorBetwM
import Derived.BigQuiet
namespace Go.Proofs.YtpidccdgkkcljaaGreatDoor
open Go.RowKit Go.Shelf Go.Maps
set_option linter.unusedVariables false

theorem owns_len {W : World} {b e z n : Nat} {v : Value} {xs : List Value} (h : W.ownsRow b e z v n xs) : ∃ (o : Option Addr) (c : Nat), v = .slice o n c := by
  rcases h with ⟨_, ⟨rfl, rfl⟩ | ⟨g, cap, cur, h, _⟩⟩
  · exact ⟨none, 0, rfl⟩
  · exact ⟨_, cap, h⟩

theorem owns_pos {W : World} {b e z n : Nat} {o : Option Addr} {c : Nat} {xs : List Value} (h : W.ownsRow b e z (.slice o n c) n xs) (hn : 0 < n) : ∃ g, o = some ⟨g, 0, none⟩ := by
  rcases h with ⟨_, ⟨_, h⟩ | ⟨g, cap, cur, h, _⟩⟩
  · omega
  · rw [Value.slice.injEq] at h; exact ⟨g, h.1⟩

set_option maxRecDepth 100000 in
set_option maxHeartbeats 8000000 in
theorem lawBetween_long (s : ByteArray) (hs : 1000 < s.size) (w : World) (hG : GOK w) :
    Calls Tryz.prog 7 #[.string s] w fun e W' => e = .returned (.bool true) ∧ Below w.heap.size w W' := by
  have HG : Hid (GOK w) := hG
  have hsi : (1000 : Int) < s.size := by omega
  clear hG
  go_enter Tryz.func7, Tryz.ntmps7
  go_wp2_with (go_at_call 9; refine (lives_c _ HG.out).mono ?_; rintro r w1 ⟨rfl, hb⟩)
  go_ret
  exact ⟨rfl, hb⟩

set_option maxRecDepth 100000 in
set_option maxHeartbeats 8000000 in
theorem lawBetween_fault (s : ByteArray) (hs : s.size ≤ 1000) (e a : Int) (he : e ≠ 0) (hA' : ∀ w : World, GOK w → Calls Tryz.prog 10 #[.string s] w fun r W' => r = .returned (.tuple #[.slice none 0 0, .agg #[.int .i64 e, .int .i64 a]]) ∧ Below w.heap.size w W') (w : World) (hG : GOK w) :
    Calls Tryz.prog 7 #[.string s] w fun e W' => e = .returned (.bool true) ∧ Below w.heap.size w W' := by
  have HG : Hid (GOK w) := hG
  have HA : Hid _ := hA'
  have hsi : (s.size : Int) ≤ 1000 := by omega
  have hez : (e == 0) = false := beq_eq_false_iff_ne.2 he
  clear hG hA'
  go_enter Tryz.func7, Tryz.ntmps7
  go_wp2_with (first
    | (go_at_call 9; refine (lives_c _ HG.out).mono ?_; rintro r w1 ⟨rfl, hb⟩; have HB1 : Hid (Below w.heap.size w w1) := hb; clear hb)
    | (go_at_call 10; refine (HA.out _ (HG.out.below HB1.out)).mono ?_; rintro r w2 ⟨rfl, hb2⟩; have HB2 : Hid (Below w.heap.size w w2) := HB1.out.trans (hb2.mono HB1.out.size); clear hb2))
  go_ret
  exact ⟨rfl, HB2.out.alloc HB2.out.size _⟩

set_option maxRecDepth 100000 in
set_option maxHeartbeats 40000000 in
theorem lawBetween_ok (s : ByteArray) (hs : s.size ≤ 1000) (hc : chk s = (0, 0)) (ts : List M.Tk) (hts : M.scanAll s.data.toList = .inr ts) (w : World) (hG : GOK w) :
    Calls Tryz.prog 7 #[.string s] w fun e W' => e = .returned (.bool true) ∧ Below w.heap.size w W' := by
  have hdep : Tryz.prog.follows Departure.mixedOrders = true := by kernel_rfl
  have HG : Hid (GOK w) := hG
  have HA : Hid (∀ (w : World), GOK w → Calls Tryz.prog 10 #[.string s] w fun r W' => ∃ v, r = .returned (.tuple #[v, .agg #[.int .i64 0, .int .i64 0]]) ∧ Hid (W'.ownsRow w.heap.size 30 7 v ts.length (tksC ts)) ∧ Below w.heap.size w W') := fun w hG => all_inr s ts (by omega) hc hts w hG
  have HPl : Hid (Placed 0 s.size 0 ts) := by
    have := all_placed _ _ hts
    rw [← Lib.size_eq] at this
    exact this
  have hsg := all_segs _ _ hts
  rw [← Lib.size_eq] at hsg
  have HX : Hid (∀ a e : Nat, a ≤ e → e ≤ s.size → ∀ ts', M.scanAll ((s.data.toList.drop a).take (e - a)) = .inr ts' → ∀ (w : World), GOK w → Calls Tryz.prog 10 #[.string (s.extract a e)] w fun r W' => ∃ v, r = .returned (.tuple #[v, .agg #[.int .i64 0, .int .i64 0]]) ∧ Hid (W'.ownsRow w.heap.size 30 7 v ts'.length (tksC ts')) ∧ Below w.heap.size w W') := by
    intro a e hae hes ts' h' w hG
    refine all_inr _ ts' ?_ (chk_extract s a e hc) ?_ w hG
    · have he : (s.extract a e).data.toList = (s.data.toList.drop a).take (e - a) := by rw [Lib.extract_eq]
      rw [Lib.size_eq, he, List.length_take]; omega
    · rw [Lib.extract_eq]; exact h'
  have HSg : Hid (∀ i (h : i < ts.length), ts[i].pos ≤ segAt ts s.size (i + 1) ∧ M.scanAll ((s.data.toList.drop ts[i].pos).take (segAt ts s.size (i + 1) - ts[i].pos)) = .inr [⟨ts[i].t, 0, 1, 1, true⟩]) := hsg.2
  have HS0 : Hid (M.scanAll ((s.data.toList.drop 0).take (segAt ts s.size 0 - 0)) = .inr []) := by rw [List.drop_zero]; exact hsg.1
  have HSl : Hid (∀ i, segAt ts s.size i ≤ s.size) := fun i => segAt_le _ _ HPl.out i
  have hsi : (s.size : Int) ≤ 1000 := by omega
  have hlen : Hid (ts.length ≤ s.size) := placed_len _ _ HPl.out
  have HSz : Hid (s.size ≤ 1000) := hs
  clear hG hc hts hsg hs
  go_enter Tryz.func7, Tryz.ntmps7
  go_wp2_with (first
    | (go_at_call 9; refine (lives_c _ HG.out).mono ?_; rintro r w1 ⟨rfl, hb⟩; have HB1 : Hid (Below w.heap.size w w1) := hb; clear hb)
    | (go_at_call 10; refine (HA.out _ (HG.out.below HB1.out)).mono ?_; rintro r w2 ⟨v, rfl, hrow, hb2⟩; have HB2 : Hid (Below w.heap.size w w2) := HB1.out.trans (hb2.mono HB1.out.size); clear hb2; have hvl : ∃ (o : Option Addr) (c : Nat), v = .slice o ts.length c := owns_len hrow.out; obtain ⟨vo, vc, hv⟩ := hvl; rw [hv] at hrow ⊢; clear hv))
  obtain ⟨W2, hW2⟩ : ∃ W2, W2 = w2.alloc (.cells #[.int .i64 0, .int .i64 0] 26) := ⟨_, rfl⟩
  have hB12 : Hid (Below w2.heap.size w2 W2) := by rw [hW2]; exact (Below.refl _ _).alloc (Nat.le_refl _) _
  have HBW : Hid (Below w.heap.size w W2) := HB2.out.trans (hB12.out.mono HB2.out.size)
  have hrow2 : Hid (W2.ownsRow w1.heap.size 30 7 (.slice vo ts.length vc) ts.length (tksC ts)) := owns_below hrow.out hB12.out
  rw [← hW2]
  clear hW2 hrow hB12
  obtain ⟨n, hn⟩ : ∃ n, ts.length = n := ⟨_, rfl⟩
  have HN : Hid (ts.length = n) := hn
  have hrow3 : Hid (W2.ownsRow w1.heap.size 30 7 (.slice vo n vc) n (tksC ts)) := by rw [← HN.out]; exact hrow2.out
  rw [hn]
  have hn1 : n ≤ 1000 := by have := hlen.out; have := HSz.out; omega
  clear hn hrow2
  obtain ⟨z, hz⟩ : ∃ z, wrap64 ((n : Int) - 1) = z := ⟨_, rfl⟩
  have HZ : Hid (z = (n : Int) - 1) := by show _ = _; rw [← hz]; unfold wrap64; omega
  rw [hz]
  clear hz
  go_loopw [5, 6] (fun e i wr => ∃ k : Nat, k ≤ n ∧ i = .int .i64 ((k : Int) - 1) ∧ e = .int .i64 (segAt ts s.size k : Nat) ∧ Hid (Below W2.heap.size W2 wr)) (fun _ i _ => (intOf i + 1).toNat)
  case atStart => exact ⟨n, Nat.le_refl _, by rw [HZ.out], by unfold segAt; rw [dif_neg (by rw [HN.out]; omega)], Below.refl _ _⟩
  case round =>
    obtain ⟨k, hk, rfl, rfl, hB⟩ := hrel
    have HBw : Hid (Below w.heap.size w wr) := HBW.out.trans (hB.out.mono HBW.out.size)
    have HGr : Hid (GOK wr) := HG.out.below HBw.out
    rcases Nat.eq_zero_or_pos k with hk0 | hk0
    · subst hk0
      have hl0 := HSl.out 0
      have HC := HX.out 0 (segAt ts s.size 0) (Nat.zero_le _) hl0 [] HS0.out wr HGr.out
      generalize segAt ts s.size 0 = e at hl0 HC
      have HC' : Hid (Calls Tryz.prog 10 #[.string (s.extract 0 e)] wr fun r W' => ∃ v, r = .returned (.tuple #[v, .agg #[.int .i64 0, .int .i64 0]]) ∧ Hid (W'.ownsRow wr.heap.size 30 7 v 0 (tksC [])) ∧ Below wr.heap.size wr W') := HC
      have hei : (e : Int) ≤ s.size := by omega
      have he1 : (e : Int) ≤ 1000 := by omega
      clear HC hl0 HX HSg HS0 HSl hk
      go_wp2_with (go_at_call 10; fail)
      refine HC'.out.mono ?_
      rintro r w3 ⟨v, rfl, hrow, hb3⟩
      obtain ⟨vo', vc', rfl⟩ := owns_len hrow.out
      have HB3 : Hid (Below w.heap.size w w3) := HBw.out.trans (hb3.mono HBw.out.size)
      clear hb3
      go_wp2
      go_ret
      exact ⟨rfl, HB3.out.alloc HB3.out.size _⟩
    · obtain ⟨k', rfl⟩ : ∃ k', k = k' + 1 := ⟨k - 1, by omega⟩
      have hkL : k' < ts.length := by rw [HN.out]; omega
      have hr := hrow3.out
      obtain ⟨g, rfl⟩ := owns_pos hr (by omega)
      have hg : g < W2.heap.size := (hr.lt g rfl).2
      have hsg := HSg.out k' hkL
      have hl1 := HSl.out (k' + 1)
      have hpl := (HPl.out k' hkL).2.1
      have HC := HX.out _ (segAt ts s.size (k' + 1)) hsg.1 hl1 _ hsg.2 wr HGr.out
      have hcell := fun q hq u hu => (hB.out.cell (p := ⟨g, k' * 7 + q, none⟩) hg).trans (tks_cell HN.out (by rw [HN.out]; exact hr) k' hkL q hq u hu)
      have c0 := hcell 0 (by omega) _ rfl
      rw [Nat.add_zero] at c0
      have c1 := hcell 1 (by omega) _ rfl
      have c2 := hcell 2 (by omega) _ rfl
      have c3 := hcell 3 (by omega) _ rfl
      have hse : Hid (segAt ts s.size k' = ts[k'].pos) := by show _ = _; unfold segAt; rw [dif_pos hkL]
      have hae := hsg.1
      generalize segAt ts s.size (k' + 1) = e at hl1 HC hae
      generalize ts[k'] = t at HC c0 c1 c2 c3 hse hae hpl
      obtain ⟨⟨tk, tt, tn⟩, pos, line, col, first⟩ := t
      simp only at HC c0 c1 c2 c3 hse hae hpl
      have HC' : Hid (Calls Tryz.prog 10 #[.string (s.extract pos e)] wr fun r W' => ∃ v, r = .returned (.tuple #[v, .agg #[.int .i64 0, .int .i64 0]]) ∧ Hid (W'.ownsRow wr.heap.size 30 7 v 1 (tksC [⟨⟨tk, tt, tn⟩, 0, 1, 1, true⟩])) ∧ Below wr.heap.size wr W') := HC
      have hei : (e : Int) ≤ s.size := by omega
      have he1 : (e : Int) ≤ 1000 := by omega
      have hai : (pos : Int) ≤ e := by omega
      have hki : (k' : Int) < (n : Int) := by omega
      have hke : ((k' + 1 : Nat) : Int) - 1 = (k' : Int) := by omega
      rw [hke]
      have hgr : g < wr.heap.size := Nat.lt_of_lt_of_le hg hB.out.size
      clear HC HX HSg HS0 HSl hr hrow3 hkL hsg hcell hpl hk0 hl1 hae hke
      go_wp2_with (go_at_call 10; fail)
      refine HC'.out.mono ?_
      rintro r w3 ⟨v, rfl, hrow, hb3⟩
      obtain ⟨g', cap', rfl⟩ := ownsRow_succ' (m := 0) hrow.out
      have HB3 : Hid (Below wr.heap.size wr w3) := hb3
      obtain ⟨W4, hW4⟩ : ∃ W4, W4 = w3.alloc (.cells #[.int .i64 0, .int .i64 0] 26) := ⟨_, rfl⟩
      have hF4 : Hid (Blk W4 w3.heap.size #[.int .i64 0, .int .i64 0] 26) := by rw [hW4]; exact Blk.new w3 _ _
      have HB4 : Hid (Below wr.heap.size wr W4) := by rw [hW4]; exact HB3.out.alloc HB3.out.size _
      have hrow4 : Hid (W4.ownsRow wr.heap.size 30 7 (.slice (some ⟨g', 0, none⟩) 1 cap') 1 (tksC [⟨⟨tk, tt, tn⟩, 0, 1, 1, true⟩])) := by rw [hW4]; exact owns_below hrow.out ((Below.refl _ _).alloc (Nat.le_refl _) _)
      have hcell := fun q hq u hu => tks_cell (ts := [⟨⟨tk, tt, tn⟩, 0, 1, 1, true⟩]) rfl hrow4.out 0 (by simp) q hq u hu
      have d0 := hcell 0 (by omega) _ rfl
      have d1 := hcell 1 (by omega) _ rfl
      have d2 := hcell 2 (by omega) _ rfl
      have d3 := hcell 3 (by omega) _ rfl
      simp only [Nat.zero_mul, Nat.zero_add, List.getElem_cons_zero] at d0 d1 d2 d3
      have e0 := (HB4.out.cell (p := ⟨g, k' * 7, none⟩) hgr).trans c0
      have e1 := (HB4.out.cell (p := ⟨g, k' * 7 + 1, none⟩) hgr).trans c1
      have e2 := (HB4.out.cell (p := ⟨g, k' * 7 + 2, none⟩) hgr).trans c2
      clear c0 c1 c2 c3 hb3 hcell hrow hrow4
      go_wp2_with fail
      rw [← hW4]
      obtain ⟨ra0, ra1, rf0, rf1⟩ := hF4.out.all2
      clear hW4 rf0 rf1
      go_quiet (fail)
      go_wp2
      go_roundw
      case rel =>
        refine ⟨k', by omega, by go_num, by rw [hse.out], ?_⟩
        show Below _ _ _
        refine Below.trans (hB.out.trans (HB4.out.mono hB.out.size)) ⟨rfl, rfl, rfl, Nat.le_refl _, fun _ _ => rfl⟩
      case measure => simp [intOf]

theorem lawBetween_c (s : ByteArray) (w : World) (hG : GOK w) : Calls Tryz.prog 7 #[.string s] w fun e W' => e = .returned (.bool true) ∧ Below w.heap.size w W' := by
  by_cases hs : 1000 < s.size
  · exact lawBetween_long s hs w hG
  · have hs' : s.size ≤ 1000 := by omega
    rcases chk_cases s with hc | hc
    · cases hts : M.scanAll s.data.toList with
      | inl a => exact lawBetween_fault s hs' 4 a (by decide) (fun w hG => all_inl s a (by omega) hc hts w hG) w hG
      | inr ts => exact lawBetween_ok s hs' hc ts hts w hG
    · exact lawBetween_fault s hs' (chk s).1 (chk s).2 hc (fun w _ => all_bad s _ _ rfl hc w) w hG

end Go.Proofs.YtpidccdgkkcljaaGreatDoor
