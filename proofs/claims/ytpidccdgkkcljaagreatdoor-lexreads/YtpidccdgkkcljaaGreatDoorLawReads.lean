/-
  The law LexReads, walked.
-/
import Derived.Test.YtpidccdgkkcljaaGreatDoorRefT
import Derived.Test.YtpidccdgkkcljaaGreatDoorLives2
import Derived.BigQuiet
namespace Go.Proofs.YtpidccdgkkcljaaGreatDoor
open Go.RowKit Go.Shelf Go.Maps
set_option linter.unusedVariables false

theorem owns_len2 {W : World} {b e z n : Nat} {v : Value} {xs : List Value} (h : W.ownsRow b e z v n xs) : ∃ (o : Option Addr) (c : Nat), v = .slice o n c := by
  rcases h with ⟨hl, ⟨rfl, h0⟩ | ⟨g, cap, cur, rfl, h1⟩⟩
  · exact ⟨none, 0, by rw [h0]⟩
  · exact ⟨_, _, rfl⟩

set_option maxRecDepth 100000 in
set_option maxHeartbeats 4000000 in
theorem sameTok_c (ts : List M.Tk) (b b' : Nat) (v v' : Value) (hn : ts.length ≤ 5000) (w : World) (h : w.ownsRow b 30 7 v ts.length (tksC ts)) (h' : w.ownsRow b' 30 7 v' ts.length (tksC ts)) :
    Calls Tryz.prog 15 #[v, v'] w fun r W' => r = .returned (.bool true) ∧ Below w.heap.size w W' := by
  have hdep : Tryz.prog.follows Departure.mixedOrders = true := by kernel_rfl
  obtain ⟨m, hm⟩ : ∃ m, ts.length = m := ⟨_, rfl⟩
  have HN : Hid (m ≤ 5000) := by rw [← hm]; exact hn
  obtain ⟨o, c, hv⟩ := owns_len2 h
  obtain ⟨o', c', hv'⟩ := owns_len2 h'
  subst hv hv'
  have H : Hid (w.ownsRow b 30 7 (.slice o m c) ts.length (tksC ts)) := by rw [← hm]; exact h
  have H' : Hid (w.ownsRow b' 30 7 (.slice o' m c') ts.length (tksC ts)) := by rw [← hm]; exact h'
  have HM : Hid (ts.length = m) := hm
  rw [hm]
  clear h h' hn hm
  rcases Nat.eq_zero_or_pos m with h0 | h0
  · subst h0
    clear H H' HM HN
    go_enter Tryz.func15, Tryz.ntmps15
    go_wp2
    go_loopw [5] (fun i wr => i = .int .i64 0 ∧ Hid (Below w.heap.size w wr)) (fun _ _ => 0)
    all_goals first | exact ⟨rfl, Below.refl _ _⟩ | (obtain ⟨rfl, hB⟩ := hrel; go_wp2; go_ret; exact ⟨rfl, hB.out⟩)
  · obtain ⟨m', hm'⟩ : ∃ m', m = m' + 1 := ⟨m - 1, by omega⟩
    subst hm'
    have e1 : ∃ g, o = some ⟨g, 0, none⟩ := by
      have h := H.out
      rw [HM.out] at h
      obtain ⟨g, cap, hh⟩ := ownsRow_succ' h
      simp only [Value.slice.injEq] at hh
      exact ⟨g, hh.1⟩
    have e2 : ∃ g, o' = some ⟨g, 0, none⟩ := by
      have h := H'.out
      rw [HM.out] at h
      obtain ⟨g, cap, hh⟩ := ownsRow_succ' h
      simp only [Value.slice.injEq] at hh
      exact ⟨g, hh.1⟩
    obtain ⟨g, rfl⟩ := e1
    obtain ⟨g', rfl⟩ := e2
    have hg : g < w.heap.size := (H.out.lt g rfl).2
    have hg' : g' < w.heap.size := (H'.out.lt g' rfl).2
    clear h0
    go_enter Tryz.func15, Tryz.ntmps15
    go_wp2
    go_loopw [5] (fun i wr => ∃ k : Nat, k ≤ m' + 1 ∧ i = .int .i64 k ∧ Hid (Below w.heap.size w wr)) (fun i _ => m' + 1 - (intOf i).toNat)
    case atStart => exact ⟨0, Nat.zero_le _, rfl, Below.refl _ _⟩
    case round =>
      obtain ⟨k, hk, rfl, hB⟩ := hrel
      by_cases hlt : k < m' + 1
      · have hkL : k < ts.length := by rw [HM.out]; exact hlt
        have hki : (k : Int) < (m' : Int) + 1 := by omega
        have hk5 : (k : Int) ≤ 5000 := by have := HN.out; omega
        have hcell := fun q hq u hu => (hB.out.cell (p := ⟨g, k * 7 + q, none⟩) hg).trans (tks_cell HM.out H.out k hkL q hq u hu)
        have hcell' := fun q hq u hu => (hB.out.cell (p := ⟨g', k * 7 + q, none⟩) hg').trans (tks_cell HM.out H'.out k hkL q hq u hu)
        have c0 := hcell 0 (by omega) _ rfl
        have d0 := hcell' 0 (by omega) _ rfl
        rw [Nat.add_zero] at c0 d0
        have c1 := hcell 1 (by omega) _ rfl
        have c2 := hcell 2 (by omega) _ rfl
        have c3 := hcell 3 (by omega) _ rfl
        have c4 := hcell 4 (by omega) _ rfl
        have c5 := hcell 5 (by omega) _ rfl
        have c6 := hcell 6 (by omega) _ rfl
        have d1 := hcell' 1 (by omega) _ rfl
        have d2 := hcell' 2 (by omega) _ rfl
        have d3 := hcell' 3 (by omega) _ rfl
        have d4 := hcell' 4 (by omega) _ rfl
        have d5 := hcell' 5 (by omega) _ rfl
        have d6 := hcell' 6 (by omega) _ rfl
        generalize ts[k] = t at c0 c1 c2 c3 c4 c5 c6 d0 d1 d2 d3 d4 d5 d6
        obtain ⟨⟨tk, tt, tn⟩, pos, line, col, first⟩ := t
        simp only at c0 c1 c2 c3 c4 c5 c6 d0 d1 d2 d3 d4 d5 d6
        clear hcell hcell' hkL H H' HM HN
        have jf : (first != first) = false := by cases first <;> rfl
        go_wp2_with fail
        go_big_quiet (fail)
        go_wp2
        go_roundw
        case rel =>
          refine ⟨k + 1, by omega, by go_num, ?_⟩
          show Below _ _ _
          refine Below.trans hB.out ⟨rfl, rfl, rfl, Nat.le_refl _, fun _ _ => rfl⟩
        case measure => simp [intOf]; omega
      · obtain rfl : k = m' + 1 := by omega
        go_wp2
        go_ret
        exact ⟨rfl, hB.out⟩

theorem chk_two (s : ByteArray) : chk s = (0, 0) ∨ (chk s).1 ≠ 0 := by
  have hf : ∀ (l : List UInt8) (i : Nat), fb l i = (0, 0) ∨ (fb l i).1 ≠ 0 := by
    intro l
    induction l with
    | nil => intro i; exact .inl rfl
    | cons b l ih =>
      intro i
      unfold fb
      split
      · exact ih _
      · exact .inr (show (4 : Int) ≠ 0 by decide)
  unfold chk
  split
  · exact .inr (by decide)
  · exact hf _ _

theorem scan_count : ∀ (f a : Nat) (p : Nat × Nat) (last : Nat) (l : List UInt8) (ts : List M.Tk), M.scan f a p last l = .inr ts → ts.length ≤ l.length
  | 0, a, p, last, l, ts, h => by simp [M.scan] at h
  | f + 1, a, p, last, l, ts, h => by
    rw [M.scan] at h
    split at h
    · simp only [Sum.inr.injEq] at h; subst h; simp
    · split at h
      · simp at h
      · rename_i h0 h1
        split at h
        · simp at h
        · rename_i ts' hs'
          simp only [Sum.inr.injEq] at h
          subst h
          have ih := scan_count f _ _ _ _ _ hs'
          have h2 := M.lex1_le (l.drop (M.idleAll l))
          rw [List.length_drop] at ih h2
          simp only [List.length_cons]
          omega
theorem rAll_len (s : ByteArray) (ts : List M.Tk) (h : M.scanAll s.data.toList = .inr ts) : ts.length ≤ s.size := by
  rw [Lib.size_eq]
  exact scan_count _ _ _ _ _ _ h

set_option maxRecDepth 100000 in
set_option maxHeartbeats 2000000 in
theorem lawReads_long (s : ByteArray) (hs : 4000 < s.size) (w : World) (hG : GOK w) :
    Calls Tryz.prog 4 #[.string s] w fun e W' => e = .returned (.bool true) ∧ Below w.heap.size w W' := by
  have HG : Hid (GOK w) := hG
  have hsi : (4000 : Int) < s.size := by omega
  clear hG
  go_enter Tryz.func4, Tryz.ntmps4
  go_wp2_with (go_at_call 9; refine (lives_c _ HG.out).mono ?_; rintro r w1 ⟨rfl, hb⟩)
  go_ret
  exact ⟨rfl, hb⟩

set_option maxRecDepth 100000 in
set_option maxHeartbeats 2000000 in
theorem lawReads_both (s : ByteArray) (hs : s.size ≤ 4000) (ts : List M.Tk) (htl : ts.length ≤ 4000) (e a : Int)
    (hA' : ∀ w : World, GOK w → Calls Tryz.prog 10 #[.string s] w fun r W' => ∃ v, r = .returned (.tuple #[v, .agg #[.int .i64 e, .int .i64 a]]) ∧ Hid (W'.ownsRow w.heap.size 30 7 v ts.length (tksC ts)) ∧ Below w.heap.size w W')
    (hR' : ∀ w : World, Calls Tryz.prog 14 #[.string s] w fun r W' => ∃ v, r = .returned (.tuple #[v, .agg #[.int .i64 e, .int .i64 a]]) ∧ Hid (W'.ownsRow w.heap.size 30 7 v ts.length (tksC ts)) ∧ Below w.heap.size w W') (w : World) (hG : GOK w) :
    Calls Tryz.prog 4 #[.string s] w fun e W' => e = .returned (.bool true) ∧ Below w.heap.size w W' := by
  have hdep : Tryz.prog.follows Departure.mixedOrders = true := by kernel_rfl
  have HG : Hid (GOK w) := hG
  have HA : Hid (∀ w : World, GOK w → Calls Tryz.prog 10 #[.string s] w fun r W' => ∃ v, r = .returned (.tuple #[v, .agg #[.int .i64 e, .int .i64 a]]) ∧ Hid (W'.ownsRow w.heap.size 30 7 v ts.length (tksC ts)) ∧ Below w.heap.size w W') := hA'
  have HR : Hid (∀ w : World, Calls Tryz.prog 14 #[.string s] w fun r W' => ∃ v, r = .returned (.tuple #[v, .agg #[.int .i64 e, .int .i64 a]]) ∧ Hid (W'.ownsRow w.heap.size 30 7 v ts.length (tksC ts)) ∧ Below w.heap.size w W') := hR'
  have HTL : Hid (ts.length ≤ 5000) := by show _ ≤ _; omega
  have hsi : (s.size : Int) ≤ 4000 := by omega
  clear hG hA' hR' hs htl
  go_enter Tryz.func4, Tryz.ntmps4
  go_wp2_with (first
    | (go_at_call 9; refine (lives_c _ HG.out).mono ?_; rintro r w1 ⟨rfl, hb⟩; have HB1 : Hid (Below w.heap.size w w1) := hb; clear hb)
    | (go_at_call 10; refine (HA.out _ (HG.out.below HB1.out)).mono ?_; rintro r w2 ⟨v, rfl, ho2, hb2⟩; have HB2 : Hid (Below w.heap.size w w2) := HB1.out.trans (hb2.mono HB1.out.size); clear hb2)
    | (go_at_call 14; fail))
  refine (HR.out _).mono ?_
  rintro r w3 ⟨v', rfl, ho3, hb3⟩
  have HF3 : Hid (Blk w3 w2.heap.size #[.int .i64 e, .int .i64 a] 26) := (Blk.new w2 _ _).below hb3
  have HO2 : Hid (w3.ownsRow w1.heap.size 30 7 v ts.length (tksC ts)) := owns_below (ho2.out.alloc _) hb3
  have HO3 : Hid (w3.ownsRow (w2.alloc (.cells #[.int .i64 e, .int .i64 a] 26)).heap.size 30 7 v' ts.length (tksC ts)) := ho3.out
  have hBa : Below w.heap.size w (w2.alloc (.cells #[.int .i64 e, .int .i64 a] 26)) := HB2.out.alloc HB2.out.size _
  have HB3 : Hid (Below w.heap.size w w3) := hBa.trans (hb3.mono hBa.size)
  have hl2 : w2.heap.size < w3.heap.size := HF3.out.lt
  clear hb3 hBa ho2 ho3
  go_wp2_with (first
    | (go_at_call 15; fail))
  refine (sameTok_c ts _ _ v v' HTL.out _ (HO2.out.alloc _) (HO3.out.alloc _)).mono ?_
  rintro r w4 ⟨rfl, hb4⟩
  have hF4 := (((HF3.out.alloc _).below hb4)).all2
  have hG4 := ((Blk.new w3 _ _).below hb4).all2
  obtain ⟨fc0, fc1, ff0, ff1⟩ := hF4
  obtain ⟨gc0, gc1, gf0, gf1⟩ := hG4
  have HB4 : Hid (Below w.heap.size w w4) := (HB3.out.alloc HB3.out.size _).trans (hb4.mono (by have := HB3.out.size; simp; omega))
  clear hb4 HO2 HO3 HF3
  go_wp2
  go_ret
  exact ⟨rfl, HB4.out⟩

theorem lawReads_c (s : ByteArray) (w : World) (hG : GOK w) : Calls Tryz.prog 4 #[.string s] w fun e W' => e = .returned (.bool true) ∧ Below w.heap.size w W' := by
  by_cases hs : 4000 < s.size
  · exact lawReads_long s hs w hG
  · have hs' : s.size ≤ 4000 := by omega
    have hnil : ∀ (W : World) (b : Nat), W.ownsRow b 30 7 (.slice none 0 0) ([] : List M.Tk).length (tksC []) := fun W b => World.ownsRow_nil _ _ _ _
    rcases chk_two s with hc | hc
    · cases hts : M.scanAll s.data.toList with
      | inl a =>
        refine lawReads_both s hs' [] (by simp) 4 a (fun w hG => ?_) (fun w => ?_) w hG
        · exact (all_inl s a (by omega) hc hts w hG).mono fun r W' ⟨h1, h2⟩ => ⟨_, h1, hnil _ _, h2⟩
        · exact (rAll_inl s a (by omega) hc hts w).mono fun r W' ⟨h1, h2⟩ => ⟨_, h1, hnil _ _, h2⟩
      | inr ts =>
        have htl : ts.length ≤ 4000 := by
          have h1 := rAll_len s ts hts
          omega
        refine lawReads_both s hs' ts htl 0 0 (fun w hG => ?_) (fun w => ?_) w hG
        · exact all_inr s ts (by omega) hc hts w hG
        · exact (rAll_inr s ts (by omega) hc hts w).mono fun r W' ⟨v, h1, _, h2, h3⟩ => ⟨v, h1, h2, h3⟩
    · refine lawReads_both s hs' [] (by simp) (chk s).1 (chk s).2 (fun w _ => ?_) (fun w => ?_) w hG
      · exact (all_bad s _ _ rfl hc w).mono fun r W' ⟨h1, h2⟩ => ⟨_, h1, hnil _ _, h2⟩
      · exact (rAll_bad s _ _ rfl hc w).mono fun r W' ⟨h1, h2⟩ => ⟨_, h1, hnil _ _, h2⟩

end Go.Proofs.YtpidccdgkkcljaaGreatDoor
