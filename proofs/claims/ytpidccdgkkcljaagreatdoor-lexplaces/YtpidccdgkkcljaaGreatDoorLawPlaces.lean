/-
  The law LexPlaces, walked.
-/
import Derived.Test.YtpidccdgkkcljaaGreatDoorLives2
import Derived.Test.YtpidccdgkkcljaaGreatDoorBetwM
import Derived.BigQuiet
namespace Go.Proofs.YtpidccdgkkcljaaGreatDoor
open Go.RowKit Go.Shelf Go.Maps
set_option linter.unusedVariables false

set_option maxRecDepth 100000 in
set_option maxHeartbeats 8000000 in
theorem lawPlaces_long (s : ByteArray) (hs : 4000 < s.size) (w : World) (hG : GOK w) :
    Calls Tryz.prog 8 #[.string s] w fun e W' => e = .returned (.bool true) ∧ Below w.heap.size w W' := by
  have HG : Hid (GOK w) := hG
  have hsi : (4000 : Int) < s.size := by omega
  clear hG
  go_enter Tryz.func8, Tryz.ntmps8
  go_wp2_with (go_at_call 9; refine (lives_c _ HG.out).mono ?_; rintro r w1 ⟨rfl, hb⟩)
  go_ret
  exact ⟨rfl, hb⟩

set_option maxRecDepth 100000 in
set_option maxHeartbeats 8000000 in
theorem lawPlaces_fault (s : ByteArray) (hs : s.size ≤ 4000) (e a : Int) (he : e ≠ 0) (hA' : ∀ w : World, GOK w → Calls Tryz.prog 10 #[.string s] w fun r W' => r = .returned (.tuple #[.slice none 0 0, .agg #[.int .i64 e, .int .i64 a]]) ∧ Below w.heap.size w W') (w : World) (hG : GOK w) :
    Calls Tryz.prog 8 #[.string s] w fun e W' => e = .returned (.bool true) ∧ Below w.heap.size w W' := by
  have HG : Hid (GOK w) := hG
  have HA : Hid _ := hA'
  have hsi : (s.size : Int) ≤ 4000 := by omega
  have hez : (e == 0) = false := beq_eq_false_iff_ne.2 he
  clear hG hA'
  go_enter Tryz.func8, Tryz.ntmps8
  go_wp2_with (first
    | (go_at_call 9; refine (lives_c _ HG.out).mono ?_; rintro r w1 ⟨rfl, hb⟩; have HB1 : Hid (Below w.heap.size w w1) := hb; clear hb)
    | (go_at_call 10; refine (HA.out _ (HG.out.below HB1.out)).mono ?_; rintro r w2 ⟨rfl, hb2⟩; have HB2 : Hid (Below w.heap.size w w2) := HB1.out.trans (hb2.mono HB1.out.size); clear hb2))
  go_ret
  exact ⟨rfl, HB2.out.alloc HB2.out.size _⟩

set_option maxRecDepth 100000 in
set_option maxHeartbeats 40000000 in
theorem lawPlaces_ok (s : ByteArray) (hs : s.size ≤ 4000) (hc : chk s = (0, 0)) (ts : List M.Tk) (hts : M.scanAll s.data.toList = .inr ts) (w : World) (hG : GOK w) :
    Calls Tryz.prog 8 #[.string s] w fun e W' => e = .returned (.bool true) ∧ Below w.heap.size w W' := by
  have hdep : Tryz.prog.follows Departure.mixedOrders = true := by kernel_rfl
  have HG : Hid (GOK w) := hG
  have HA : Hid (∀ (w : World), GOK w → Calls Tryz.prog 10 #[.string s] w fun r W' => ∃ v, r = .returned (.tuple #[v, .agg #[.int .i64 0, .int .i64 0]]) ∧ Hid (W'.ownsRow w.heap.size 30 7 v ts.length (tksC ts)) ∧ Below w.heap.size w W') := fun w hG => all_inr s ts (by omega) hc hts w hG
  have HPl : Hid (Placed 0 s.size 0 ts) := by
    have := all_placed _ _ hts
    rw [← Lib.size_eq] at this
    exact this
  have hsi : (s.size : Int) ≤ 4000 := by omega
  have hlen : Hid (ts.length ≤ s.size) := placed_len _ _ HPl.out
  clear hG hc hts
  go_enter Tryz.func8, Tryz.ntmps8
  go_wp2_with (first
    | (go_at_call 9; refine (lives_c _ HG.out).mono ?_; rintro r w1 ⟨rfl, hb⟩; have HB1 : Hid (Below w.heap.size w w1) := hb; clear hb)
    | (go_at_call 10; refine (HA.out _ (HG.out.below HB1.out)).mono ?_; rintro r w2 ⟨v, rfl, hrow, hb2⟩; have HB2 : Hid (Below w.heap.size w w2) := HB1.out.trans (hb2.mono HB1.out.size); clear hb2))
  obtain ⟨W2, hW2⟩ : ∃ W2, W2 = w2.alloc (.cells #[.int .i64 0, .int .i64 0] 26) := ⟨_, rfl⟩
  have hB12 : Hid (Below w2.heap.size w2 W2) := by rw [hW2]; exact (Below.refl _ _).alloc (Nat.le_refl _) _
  have HBW : Hid (Below w.heap.size w W2) := HB2.out.trans (hB12.out.mono HB2.out.size)
  have hrow2 : Hid (W2.ownsRow w1.heap.size 30 7 v ts.length (tksC ts)) := owns_below hrow.out hB12.out
  rw [← hW2]
  clear hW2 hrow hB12
  rcases Nat.eq_zero_or_pos ts.length with h0 | h0
  · have hr := hrow2.out
    rw [h0] at hr
    rcases hr with ⟨_, ⟨rfl, _⟩ | ⟨g, cap, cur, rfl, _⟩⟩
    all_goals clear hrow2
    all_goals go_loopw [5] (fun i wr => i = .int .i64 0 ∧ Hid (Below W2.heap.size W2 wr)) (fun _ _ => 0)
    all_goals first | exact ⟨rfl, Below.refl _ _⟩ | (obtain ⟨rfl, hB⟩ := hrel; go_wp2; go_ret; exact ⟨rfl, HBW.out.trans (hB.out.mono HBW.out.size)⟩)
  · obtain ⟨m, hm⟩ : ∃ m, ts.length = m + 1 := ⟨ts.length - 1, by omega⟩
    have hr := hrow2.out
    rw [hm] at hr
    obtain ⟨g, cap, rfl⟩ := ownsRow_succ' hr
    have HM : Hid (ts.length = m + 1) := hm
    have hm4 : m + 1 ≤ 4000 := by have := hlen.out; omega
    have hg : g < W2.heap.size := (hrow2.out.lt g rfl).2
    clear hr hm h0
    go_loopw [5] (fun i wr => ∃ k : Nat, k ≤ m + 1 ∧ i = .int .i64 k ∧ Hid (Below W2.heap.size W2 wr)) (fun i _ => m + 1 - (intOf i).toNat)
    case atStart => exact ⟨0, Nat.zero_le _, rfl, Below.refl _ _⟩
    case round =>
      obtain ⟨k, hk, rfl, hB⟩ := hrel
      by_cases hlt : k < m + 1
      · have hkL : k < ts.length := by rw [HM.out]; exact hlt
        have hki : (k : Int) < (m : Int) + 1 := by omega
        have hcell := fun k hk q hq u hu => (hB.out.cell (p := ⟨g, k * 7 + q, none⟩) hg).trans (tks_cell HM.out hrow2.out k hk q hq u hu)
        obtain ⟨p1, p2, p3, p4, p5, p6⟩ := HPl.out k hkL
        have c3 := hcell k hkL 3 (by omega) _ rfl
        have c4 := hcell k hkL 4 (by omega) _ rfl
        have c5 := hcell k hkL 5 (by omega) _ rfl
        have c6 := hcell k hkL 6 (by omega) _ rfl
        rcases Nat.eq_zero_or_pos k with hk0 | hk0
        · subst hk0
          have pf := p5 rfl
          generalize ts[0] = t at c3 c4 c5 c6 p1 p2 p3 p4 pf
          obtain ⟨⟨tk, tt, tn⟩, pos, line, col, first⟩ := t
          simp only [Nat.zero_mul, Nat.zero_add] at c3 c4 c5 c6 p1 p2 p3 p4 pf
          have hft : first = true := by rw [pf]; simp; omega
          subst hft
          have i1 : (0 : Int) ≤ pos := by omega
          have i2 : (pos : Int) < s.size := by omega
          have i3 : (1 : Int) ≤ line := by omega
          have i4 : (1 : Int) ≤ col := by omega
          clear p1 p2 p3 p4 p5 p6 pf hcell hkL
          have j0 : decide ((pos : Int) < 0) = false := decide_eq_false (by omega)
          have j2 : decide (s.size ≤ pos) = false := decide_eq_false (by omega)
          have j3 : decide (line < 1) = false := decide_eq_false (by omega)
          have j4 : decide (col < 1) = false := decide_eq_false (by omega)
          have j3i : decide ((line : Int) < 1) = false := decide_eq_false (by omega)
          have j4i : decide ((col : Int) < 1) = false := decide_eq_false (by omega)
          have j3z : decide (line = 0) = false := decide_eq_false (by omega)
          have j4z : decide (col = 0) = false := decide_eq_false (by omega)
          have j5 : line ≠ 0 := by omega
          have j6 : col ≠ 0 := by omega
          have j7 : 0 < line := by omega
          have j8 : 0 < col := by omega
          clear HPl HA hlen HM HG HB1 hrow2 HB2
          go_wp2_with fail
          go_big_quiet (fail)
          go_wp2_with fail
          go_big_quiet (fail)
          go_wp2
          go_roundw
          case rel =>
            refine ⟨1, by omega, by go_num, ?_⟩
            show Below _ _ _
            refine Below.trans hB.out ⟨rfl, rfl, rfl, Nat.le_refl _, fun _ _ => rfl⟩
          case measure => simp [intOf]
        · obtain ⟨k', rfl⟩ : ∃ k', k = k' + 1 := ⟨k - 1, by omega⟩
          have hkL' : k' < ts.length := by omega
          have c3' := hcell k' hkL' 3 (by omega) _ rfl
          have c4' := hcell k' hkL' 4 (by omega) _ rfl
          obtain ⟨q1, q2⟩ := p6 hk0
          simp only [Nat.add_sub_cancel] at q1 q2
          generalize ts[k' + 1] = t at c3 c4 c5 c6 p1 p2 p3 p4 q1 q2
          generalize ts[k'] = t' at c3' c4' q1 q2
          obtain ⟨⟨tk, tt, tn⟩, pos, line, col, first⟩ := t
          obtain ⟨⟨tk', tt', tn'⟩, pos', line', col', first'⟩ := t'
          simp only at c3 c4 c5 c6 p1 p2 p3 p4 q1 q2 c3' c4'
          have i0 : (0 : Int) ≤ pos := by omega
          have i1 : (pos' : Int) < pos := by omega
          have i2 : (pos : Int) < s.size := by omega
          have i3 : (1 : Int) ≤ line := by omega
          have i4 : (1 : Int) ≤ col := by omega
          have i5 : ((line' : Int) != (line : Int)) = first := by rw [q1, Bool.eq_iff_iff]; simp; omega
          have i6 : ((k' : Int) + 1 == 0) = false := beq_eq_false_iff_ne.2 (by omega)
          have j1 : decide (pos ≤ pos') = false := decide_eq_false (by omega)
          have j2 : decide (s.size ≤ pos) = false := decide_eq_false (by omega)
          have j3 : decide (line < 1) = false := decide_eq_false (by omega)
          have j4 : decide (col < 1) = false := decide_eq_false (by omega)
          have j0 : decide ((pos : Int) < 0) = false := decide_eq_false (by omega)
          have j3i : decide ((line : Int) < 1) = false := decide_eq_false (by omega)
          have j4i : decide ((col : Int) < 1) = false := decide_eq_false (by omega)
          have j3z : decide (line = 0) = false := decide_eq_false (by omega)
          have j4z : decide (col = 0) = false := decide_eq_false (by omega)
          have j5 : line ≠ 0 := by omega
          have j6 : col ≠ 0 := by omega
          have j7 : 0 < line := by omega
          have j8 : 0 < col := by omega
          have hki2 : (k' : Int) + 1 < (m : Int) + 1 := by omega
          have hki3 : (k' : Int) ≤ 4000 := by omega
          clear p1 p2 p3 p4 p5 p6 q1 q2 hcell hkL hkL' hk0 HPl HA hlen HM HG HB1 hrow2 HB2
          have jf : (first != first) = false := by cases first <;> rfl
          · go_wp2_with fail
            go_big_quiet (fail)
            go_wp2_with fail
            go_big_quiet (fail)
            go_wp2
            go_roundw
            case rel =>
              refine ⟨k' + 1 + 1, by omega, by go_num, ?_⟩
              show Below _ _ _
              refine Below.trans hB.out ⟨rfl, rfl, rfl, Nat.le_refl _, fun _ _ => rfl⟩
            case measure => simp [intOf]; omega
      · obtain rfl : k = m + 1 := by omega
        go_wp2
        go_ret
        exact ⟨rfl, HBW.out.trans (hB.out.mono HBW.out.size)⟩

theorem lawPlaces_c (s : ByteArray) (w : World) (hG : GOK w) : Calls Tryz.prog 8 #[.string s] w fun e W' => e = .returned (.bool true) ∧ Below w.heap.size w W' := by
  by_cases hs : 4000 < s.size
  · exact lawPlaces_long s hs w hG
  · have hs' : s.size ≤ 4000 := by omega
    rcases chk_cases s with hc | hc
    · cases hts : M.scanAll s.data.toList with
      | inl a => exact lawPlaces_fault s hs' 4 a (by decide) (fun w hG => all_inl s a (by omega) hc hts w hG) w hG
      | inr ts => exact lawPlaces_ok s hs' hc ts hts w hG
    · exact lawPlaces_fault s hs' (chk s).1 (chk s).2 hc (fun w _ => all_bad s _ _ rfl hc w) w hG

end Go.Proofs.YtpidccdgkkcljaaGreatDoor
