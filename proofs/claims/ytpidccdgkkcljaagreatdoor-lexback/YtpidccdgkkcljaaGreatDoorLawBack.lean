/-
  The law LexBack, walked.
-/
import Derived.Test.YtpidccdgkkcljaaGreatDoorJoin
import Derived.Test.YtpidccdgkkcljaaGreatDoorLives2
import Derived.Test.YtpidccdgkkcljaaGreatDoorBetwM
import Derived.BigQuiet
namespace Go.Proofs.YtpidccdgkkcljaaGreatDoor
open Go.RowKit Go.Shelf Go.Maps
set_option linter.unusedVariables false

set_option maxRecDepth 100000 in
set_option maxHeartbeats 2000000 in
theorem lawBack_long (s : ByteArray) (hs : 4000 < s.size) (w : World) (hG : GOK w) :
    Calls Tryz.prog 6 #[.string s] w fun e W' => e = .returned (.bool true) ∧ Below w.heap.size w W' := by
  have HG : Hid (GOK w) := hG
  have hsi : (4000 : Int) < s.size := by omega
  clear hG
  go_enter Tryz.func6, Tryz.ntmps6
  go_wp2_with (go_at_call 9; refine (lives_c _ HG.out).mono ?_; rintro r w1 ⟨rfl, hb⟩)
  go_ret
  exact ⟨rfl, hb⟩

set_option maxRecDepth 100000 in
set_option maxHeartbeats 2000000 in
theorem lawBack_fault (s : ByteArray) (hs : s.size ≤ 4000) (e a : Int) (he : e ≠ 0) (hA' : ∀ w : World, GOK w → Calls Tryz.prog 10 #[.string s] w fun r W' => r = .returned (.tuple #[.slice none 0 0, .agg #[.int .i64 e, .int .i64 a]]) ∧ Below w.heap.size w W') (w : World) (hG : GOK w) :
    Calls Tryz.prog 6 #[.string s] w fun e W' => e = .returned (.bool true) ∧ Below w.heap.size w W' := by
  have HG : Hid (GOK w) := hG
  have HA : Hid _ := hA'
  have hsi : (s.size : Int) ≤ 4000 := by omega
  have hez : (e == 0) = false := beq_eq_false_iff_ne.2 he
  have hez2 : (e != 0) = true := bne_iff_ne.2 he
  clear hG hA'
  go_enter Tryz.func6, Tryz.ntmps6
  go_wp2_with (first
    | (go_at_call 9; refine (lives_c _ HG.out).mono ?_; rintro r w1 ⟨rfl, hb⟩; have HB1 : Hid (Below w.heap.size w w1) := hb; clear hb)
    | (go_at_call 10; refine (HA.out _ (HG.out.below HB1.out)).mono ?_; rintro r w2 ⟨rfl, hb2⟩; have HB2 : Hid (Below w.heap.size w w2) := HB1.out.trans (hb2.mono HB1.out.size); clear hb2))
  go_ret
  exact ⟨rfl, HB2.out.alloc HB2.out.size _⟩

set_option maxRecDepth 100000 in
set_option maxHeartbeats 2000000 in
theorem lawBack_over (s : ByteArray) (hs : s.size ≤ 4000) (hc : chk s = (0, 0)) (ts : List M.Tk) (hts : M.scanAll s.data.toList = .inr ts) (hj : 65536 < (joinM (ts.map fun t => tx0 t.t)).length) (w : World) (hG : GOK w) :
    Calls Tryz.prog 6 #[.string s] w fun e W' => e = .returned (.bool true) ∧ Below w.heap.size w W' := by
  have HG : Hid (GOK w) := hG
  have hsz : s.data.toList.length = s.size := (Lib.size_eq s).symm
  have hbd := scan_bounds _ _ _ _ _ ts hts
  rw [hsz] at hbd
  have hpl := all_placed _ _ hts
  rw [hsz] at hpl
  have hlen : ts.length ≤ s.size := placed_len _ _ hpl
  have HA : Hid (∀ (w : World), GOK w → Calls Tryz.prog 10 #[.string s] w fun r W' => ∃ v, r = .returned (.tuple #[v, .agg #[.int .i64 0, .int .i64 0]]) ∧ Hid (W'.ownsRow w.heap.size 30 7 v ts.length (tksC ts)) ∧ Below w.heap.size w W') := fun w hG => all_inr s ts (by omega) hc hts w hG
  have HJ : Hid (∀ (v : Value) (b : Nat) (W : World), GOK W → W.ownsRow b 30 7 v ts.length (tksC ts) → Calls Tryz.prog 19 #[v] W fun r W' => r = .returned (.string (bs (joinM (ts.map fun t => tx0 t.t)))) ∧ Below W.heap.size W W') := fun v b W hG h => join_c ts b v (by omega) (fun t ht => ⟨(hbd t ht).1, by have := (hbd t ht).2; omega⟩) W hG h
  have hsi : (s.size : Int) ≤ 4000 := by omega
  have hji : (65536 : Int) < ((bs (joinM (ts.map fun t => tx0 t.t))).size : Int) := by rw [bs_size]; omega
  generalize bs (joinM (ts.map fun t => tx0 t.t)) = J at HJ hji
  clear hG hc hts hj hbd hpl hlen hsz
  go_enter Tryz.func6, Tryz.ntmps6
  go_wp2_with (first
    | (go_at_call 9; refine (lives_c _ HG.out).mono ?_; rintro r w1 ⟨rfl, hb⟩; have HB1 : Hid (Below w.heap.size w w1) := hb; clear hb)
    | (go_at_call 10; refine (HA.out _ (HG.out.below HB1.out)).mono ?_; rintro r w2 ⟨v, rfl, hrow, hb2⟩; have HB2 : Hid (Below w.heap.size w w2) := HB1.out.trans (hb2.mono HB1.out.size); clear hb2)
    | (go_at_call 19; fail))
  refine (HJ.out v _ _ (HG.out.below (HB2.out.alloc HB2.out.size _)) (hrow.out.alloc _)).mono ?_
  rintro r w3 ⟨rfl, hb3⟩
  have HB3 : Hid (Below w.heap.size w w3) := (HB2.out.alloc HB2.out.size _).trans (hb3.mono (by have := HB2.out.size; simp; omega))
  clear hb3 hrow
  go_wp2
  go_ret
  exact ⟨rfl, HB3.out⟩

set_option maxRecDepth 100000 in
set_option maxHeartbeats 2000000 in
theorem lawBack_ok (s : ByteArray) (hs : s.size ≤ 4000) (hc : chk s = (0, 0)) (ts : List M.Tk) (hts : M.scanAll s.data.toList = .inr ts) (hj : (joinM (ts.map fun t => tx0 t.t)).length ≤ 65536) (w : World) (hG : GOK w) :
    Calls Tryz.prog 6 #[.string s] w fun e W' => e = .returned (.bool true) ∧ Below w.heap.size w W' := by
  have hdep : Tryz.prog.follows Departure.mixedOrders = true := by kernel_rfl
  have HG : Hid (GOK w) := hG
  have hsz : s.data.toList.length = s.size := (Lib.size_eq s).symm
  have hbd := scan_bounds _ _ _ _ _ ts hts
  rw [hsz] at hbd
  have hpl := all_placed _ _ hts
  rw [hsz] at hpl
  have hlen : ts.length ≤ s.size := placed_len _ _ hpl
  obtain ⟨hcj, ms, hms, hmt⟩ := back _ ts hts hj
  have hml : ms.length = ts.length := by have := congrArg List.length hmt; simpa using this
  have HA : Hid (∀ (w : World), GOK w → Calls Tryz.prog 10 #[.string s] w fun r W' => ∃ v, r = .returned (.tuple #[v, .agg #[.int .i64 0, .int .i64 0]]) ∧ Hid (W'.ownsRow w.heap.size 30 7 v ts.length (tksC ts)) ∧ Below w.heap.size w W') := fun w hG => all_inr s ts (by omega) hc hts w hG
  have HJ : Hid (∀ (v : Value) (b : Nat) (W : World), GOK W → W.ownsRow b 30 7 v ts.length (tksC ts) → Calls Tryz.prog 19 #[v] W fun r W' => r = .returned (.string (bs (joinM (ts.map fun t => tx0 t.t)))) ∧ Below W.heap.size W W') := fun v b W hG h => join_c ts b v (by omega) (fun t ht => ⟨(hbd t ht).1, by have := (hbd t ht).2; omega⟩) W hG h
  generalize joinM (ts.map fun t => tx0 t.t) = X at hcj hms HJ hj
  have hX1 : (bs X).size ≤ 70000 := by rw [bs_size]; omega
  have hX2 : M.scanAll (bs X).data.toList = .inr ms := hms
  have HA2 : Hid (∀ (w : World), GOK w → Calls Tryz.prog 10 #[.string (bs X)] w fun r W' => ∃ v, r = .returned (.tuple #[v, .agg #[.int .i64 0, .int .i64 0]]) ∧ Hid (W'.ownsRow w.heap.size 30 7 v ms.length (tksC ms)) ∧ Below w.heap.size w W') := fun w hG => all_inr (bs X) ms hX1 hcj hX2 w hG
  have hsi : (s.size : Int) ≤ 4000 := by omega
  have hji : ((bs X).size : Int) ≤ 65536 := by rw [bs_size]; omega
  clear hX1 hX2 hcj hms hj
  generalize bs X = J at HJ hji HA2
  have HEq : Hid (∀ k (h : k < ts.length) (h' : k < ms.length), ms[k].t = ts[k].t) := by
    intro k h h'
    have h1 : (ms.map (·.t))[k]? = (ts.map (·.t))[k]? := by rw [hmt]
    rw [List.getElem?_map, List.getElem?_map, List.getElem?_eq_getElem h, List.getElem?_eq_getElem h'] at h1
    simpa using h1
  obtain ⟨m, hm⟩ : ∃ m, ts.length = m := ⟨_, rfl⟩
  have HM : Hid (ts.length = m) := hm
  have HM' : Hid (ms.length = m) := hml.trans hm
  have hm4 : m ≤ 4000 := by omega
  clear hG hc hts hbd hpl hlen hsz hmt hml hm hs
  go_enter Tryz.func6, Tryz.ntmps6
  go_wp2_with (first
    | (go_at_call 9; refine (lives_c _ HG.out).mono ?_; rintro r w1 ⟨rfl, hb⟩; have HB1 : Hid (Below w.heap.size w w1) := hb; clear hb)
    | (go_at_call 10; refine (HA.out _ (HG.out.below HB1.out)).mono ?_; rintro r w2 ⟨v, rfl, hrow, hb2⟩; have HB2 : Hid (Below w.heap.size w w2) := HB1.out.trans (hb2.mono HB1.out.size); clear hb2)
    | (go_at_call 19; fail))
  refine (HJ.out v _ _ (HG.out.below (HB2.out.alloc HB2.out.size _)) (hrow.out.alloc _)).mono ?_
  rintro r w3 ⟨rfl, hb3⟩
  have HB3 : Hid (Below w.heap.size w w3) := (HB2.out.alloc HB2.out.size _).trans (hb3.mono (by have := HB2.out.size; simp; omega))
  have hr3 : Hid (w3.ownsRow w1.heap.size 30 7 v ts.length (tksC ts)) := owns_below (hrow.out.alloc _) hb3
  clear hb3 hrow HB2 HB1 HA HJ
  go_wp2_with (go_at_call 10; fail)
  refine (HA2.out _ (HG.out.below HB3.out)).mono ?_
  rintro r w4 ⟨v', rfl, hrow4, hb4⟩
  have HB4 : Hid (Below w.heap.size w w4) := HB3.out.trans (hb4.mono HB3.out.size)
  have hr4 : Hid (w4.ownsRow w1.heap.size 30 7 v ts.length (tksC ts)) := owns_below hr3.out hb4
  have hrm : Hid (∃ b, w4.ownsRow b 30 7 v' ms.length (tksC ms)) := ⟨_, hrow4.out⟩
  have e1 : ∃ (o : Option Addr) (c : Nat), v = .slice o m c := by
    have h := hr4.out
    rw [HM.out] at h
    rcases h with ⟨_, ⟨rfl, h0⟩ | ⟨g, cap, cur, h, _⟩⟩
    · exact ⟨none, 0, by rw [h0]⟩
    · exact ⟨_, cap, h⟩
  have e2 : ∃ (o : Option Addr) (c : Nat), v' = .slice o m c := by
    have h := hrow4.out
    rw [HM'.out] at h
    rcases h with ⟨_, ⟨rfl, h0⟩ | ⟨g, cap, cur, h, _⟩⟩
    · exact ⟨none, 0, by rw [h0]⟩
    · exact ⟨_, cap, h⟩
  obtain ⟨o, c, rfl⟩ := e1
  obtain ⟨o', c', rfl⟩ := e2
  clear hb4 hr3 hrow4 HA2 HB3
  go_wp2
  obtain ⟨W5, hW5⟩ : ∃ W5, W5 = w4.alloc (.cells #[.int .i64 0, .int .i64 0] 26) := ⟨_, rfl⟩
  have HB5 : Hid (Below w.heap.size w W5) := by rw [hW5]; exact HB4.out.alloc HB4.out.size _
  have hr5 : Hid (W5.ownsRow w1.heap.size 30 7 (.slice o m c) ts.length (tksC ts)) := by rw [hW5]; exact hr4.out.alloc _
  have hm5 : Hid (∃ b, W5.ownsRow b 30 7 (.slice o' m c') ms.length (tksC ms)) := by
    obtain ⟨b, hb⟩ := hrm.out
    rw [hW5]; exact ⟨b, hb.alloc _⟩
  rw [← hW5]
  clear hW5 hr4 hrm HB4 HG
  go_loopw [8] (fun i wr => ∃ k : Nat, k ≤ m ∧ i = .int .i64 k ∧ Hid (Below W5.heap.size W5 wr)) (fun i _ => m - (intOf i).toNat)
  case atStart => exact ⟨0, Nat.zero_le _, rfl, Below.refl _ _⟩
  case round =>
    obtain ⟨k, hk, rfl, hB⟩ := hrel
    by_cases hlt : k < m
    · have hkL : k < ts.length := by rw [HM.out]; exact hlt
      have hkM : k < ms.length := by rw [HM'.out]; exact hlt
      have e1 : ∃ g, o = some ⟨g, 0, none⟩ := by
        have h1 := hr5.out
        rw [HM.out] at h1
        rcases h1 with ⟨_, ⟨h2, h0⟩ | ⟨g, cap', cur, h2, _⟩⟩
        · omega
        · simp only [Value.slice.injEq] at h2; exact ⟨g, h2.1⟩
      have e2 : ∃ g, o' = some ⟨g, 0, none⟩ := by
        obtain ⟨b, h1⟩ := hm5.out
        rw [HM'.out] at h1
        rcases h1 with ⟨_, ⟨h2, h0⟩ | ⟨g, cap', cur, h2, _⟩⟩
        · omega
        · simp only [Value.slice.injEq] at h2; exact ⟨g, h2.1⟩
      obtain ⟨g, rfl⟩ := e1
      obtain ⟨g', rfl⟩ := e2
      obtain ⟨bm, hm6⟩ := hm5.out
      have hg : g < W5.heap.size := (hr5.out.lt g rfl).2
      have hg' : g' < W5.heap.size := (hm6.lt g' rfl).2
      have hki : (k : Int) < (m : Int) := by omega
      have hk4 : (k : Int) ≤ 4000 := by omega
      have hcell := fun q hq u hu => (hB.out.cell (p := ⟨g, k * 7 + q, none⟩) hg).trans (tks_cell HM.out hr5.out k hkL q hq u hu)
      have hcell' := fun q hq u hu => (hB.out.cell (p := ⟨g', k * 7 + q, none⟩) hg').trans (tks_cell HM'.out hm6 k hkM q hq u hu)
      have c0 := hcell 0 (by omega) _ rfl
      have d0 := hcell' 0 (by omega) _ rfl
      rw [Nat.add_zero] at c0 d0
      have c1 := hcell 1 (by omega) _ rfl
      have c2 := hcell 2 (by omega) _ rfl
      have d1 := hcell' 1 (by omega) _ rfl
      have d2 := hcell' 2 (by omega) _ rfl
      rw [HEq.out k hkL hkM] at d0 d1 d2
      generalize ts[k].t = t at c0 c1 c2 d0 d1 d2
      obtain ⟨tk, tt, tn⟩ := t
      simp only at c0 c1 c2 d0 d1 d2
      clear hcell hcell' hkL hkM HM HM' HEq hr5 hm5 hm6 HB5
      go_wp2_with fail
      go_big_quiet (fail)
      go_wp2
      go_roundw
      case rel =>
        refine ⟨k + 1, by omega, by go_num, ?_⟩
        show Below _ _ _
        refine Below.trans hB.out ⟨rfl, rfl, rfl, Nat.le_refl _, fun _ _ => rfl⟩
      case measure => simp [intOf]; omega
    · obtain rfl : k = m := by omega
      go_wp2
      go_ret
      exact ⟨rfl, HB5.out.trans (hB.out.mono HB5.out.size)⟩

theorem lawBack_c (s : ByteArray) (w : World) (hG : GOK w) : Calls Tryz.prog 6 #[.string s] w fun e W' => e = .returned (.bool true) ∧ Below w.heap.size w W' := by
  by_cases hs : 4000 < s.size
  · exact lawBack_long s hs w hG
  · have hs' : s.size ≤ 4000 := by omega
    rcases chk_cases s with hc | hc
    · cases hts : M.scanAll s.data.toList with
      | inl a => exact lawBack_fault s hs' 4 a (by decide) (fun w hG => all_inl s a (by omega) hc hts w hG) w hG
      | inr ts =>
        by_cases hj : 65536 < (joinM (ts.map fun t => tx0 t.t)).length
        · exact lawBack_over s hs' hc ts hts hj w hG
        · exact lawBack_ok s hs' hc ts hts (by omega) w hG
    · exact lawBack_fault s hs' (chk s).1 (chk s).2 hc (fun w _ => all_bad s _ _ rfl hc w) w hG

end Go.Proofs.YtpidccdgkkcljaaGreatDoor
