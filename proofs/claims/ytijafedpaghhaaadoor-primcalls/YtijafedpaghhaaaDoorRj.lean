/-
  The law PrimCalls, walked.
-/
import Derived.Test.YtijafedpaghhaaaDoorRi
namespace Go.Proofs.YtijafedpaghhaaaDoor
open Go.RowKit Go.Shelf Go.Maps Go.Sort
set_option linter.unusedVariables false

theorem applyM_pv (x : List UInt8) (ps : List PT) : ∃ k n t, (applyM x ps).1 = pv k n t := by
  unfold applyM
  cases h : opOf x with
  | none => exact ⟨_, _, _, rfl⟩
  | some p =>
    obtain ⟨tk, g⟩ := p
    by_cases hc : (ps.length : Int) = arM x ∧ ps.all (okP tk) = true
    · simp only [hc, and_self, if_true]
      exact opOf_pv x tk g h _ _
    · simp only [hc, if_false]
      exact ⟨_, _, _, rfl⟩
theorem psIn_mono {W : World} {B B' : Nat} {o : Option Addr} {ps : List PT} (h : PsIn W B o ps) (hb : B ≤ B') : PsIn W B' o ps := by
  rcases h with h | ⟨g, off, e, hg, h⟩
  · exact .inl h
  · exact .inr ⟨g, off, e, Nat.lt_of_lt_of_le hg hb, h⟩
theorem rTakes_c (s : ByteArray) (i : Int) (w : World) : Calls Tryd.prog 17 #[.string s, .int .i64 i] w fun e w' => e = .returned (.int .i64 (takesM s.toList i)) ∧ w' = w := by
  cases h : opOf s.toList with
  | none =>
    have e : takesM s.toList i = 0 := by unfold takesM; rw [h]
    rw [e]
    exact rTakes_no s i (.inl (by unfold simpleM; rw [h]; rfl)) w
  | some p =>
    obtain ⟨tk, g⟩ := p
    by_cases hc : i < 0 ∨ arM s.toList ≤ i
    · have e : takesM s.toList i = 0 := by unfold takesM; rw [h]; simp only [hc, if_true]
      rw [e]
      exact rTakes_no s i (.inr hc) w
    · have e : takesM s.toList i = tk := by unfold takesM; rw [h]; simp only [hc, if_false]
      rw [e]
      exact rTakes_yes s i tk g h (fun h => hc (.inl h)) (fun h => hc (.inr h)) w
set_option maxRecDepth 100000 in
set_option maxHeartbeats 2000000 in
theorem lawCalls_long (s : ByteArray) (o : Option Addr) (cap len : Nat) (i n : Int) (w : World) (hlen : 10 < len) (hmax : len ≤ maxLen) :
    Calls Tryd.prog 4 #[.string s, .slice o len cap, .int .i64 i, .int .i64 n] w fun e w' => e = .returned (.bool true) ∧ Below w.heap.size w w' := by
  have hli : (10 : Int) < len := by omega
  clear hmax hlen
  go_enter Tryd.func4, Tryd.ntmps4
  go_wp2_with (go_at_call 5; fail)
  refine (lives_c _).mono ?_
  rintro e w1 ⟨rfl, hb⟩
  have HB : Hid (Below w.heap.size w w1) := hb
  clear hb
  go_wp2
  go_ret
  exact ⟨rfl, HB.out⟩
set_option maxRecDepth 100000 in
set_option maxHeartbeats 8000000 in
theorem lawCalls_short (s : ByteArray) (hs : s.size ≤ maxLen) (o : Option Addr) (cap : Nat) (ps : List PT) (i n : Int) (w : World) (hlen : ps.length ≤ 10) (hps : PsIn w w.heap.size o ps) (hwf : ∀ p ∈ ps, Lit.wf (.int .i64 p.n) = true) (wn : Lit.wf (.int .i64 n) = true) (hG : GP w) :
    Calls Tryd.prog 4 #[.string s, .slice o ps.length cap, .int .i64 i, .int .i64 n] w fun e w' => e = .returned (.bool true) ∧ Below w.heap.size w w' := by
  obtain ⟨ka, na, ta, hA⟩ := applyM_pv s.data.toList ps
  obtain ⟨er, hE⟩ : ∃ er, (applyM s.data.toList ps).2 = er := ⟨_, rfl⟩
  obtain ⟨sm, hsm⟩ : ∃ b, simpleM s.data.toList = b := ⟨_, rfl⟩
  obtain ⟨sv, hsv⟩ : ∃ b, strictM s.data.toList = b := ⟨_, rfl⟩
  obtain ⟨tv, htv⟩ : ∃ b, takesM s.data.toList i = b := ⟨_, rfl⟩
  obtain ⟨sh, hsh⟩ : ∃ b, shM n = b := ⟨_, rfl⟩
  have HG : Hid (GP w) := hG
  have HAp : Hid (∀ W : World, Below w.heap.size w W → Calls Tryd.prog 8 #[.string s, .slice o ps.length cap] W fun e w' => e = .returned (.tuple #[.agg #[.int .i64 ka, .int .i64 na, .string ta], .int .i64 er]) ∧ Below W.heap.size W w') := fun W hW => by
    have h := apply_c s hs o cap ps W (psIn_mono (hps.below hW) hW.size) hwf
    rw [hA, hE] at h; exact h
  have HRp : Hid (∀ W : World, Below w.heap.size w W → Calls Tryd.prog 12 #[.string s, .slice o ps.length cap] W fun e w' => e = .returned (.tuple #[.agg #[.int .i64 ka, .int .i64 na, .string ta], .int .i64 er]) ∧ Below W.heap.size W w') := fun W hW => by
    have h := rapply_c s o cap ps W (psIn_mono (hps.below hW) hW.size)
    rw [toL, hA, hE] at h; exact h
  have HSi : Hid (∀ W : World, Calls Tryd.prog 13 #[.string s] W fun e w' => e = .returned (.bool sm) ∧ Below W.heap.size W w') := fun W => by have h := simple_c s hs W; rw [hsm] at h; exact h
  have HRi : Hid (∀ W : World, Calls Tryd.prog 14 #[.string s] W fun e w' => e = .returned (.bool sm) ∧ w' = W) := fun W => by have h := rSimple_c s W; rw [toL, hsm] at h; exact h
  have HSt : Hid (∀ W : World, Calls Tryd.prog 10 #[.string s] W fun e w' => e = .returned (.int .i64 sv) ∧ Below W.heap.size W w') := fun W => by have h := strict_c s hs W; rw [hsv] at h; exact h
  have HRt : Hid (∀ W : World, Calls Tryd.prog 15 #[.string s] W fun e w' => e = .returned (.int .i64 sv) ∧ w' = W) := fun W => by have h := rStrict_c s W; rw [toL, hsv] at h; exact h
  have HTk : Hid (∀ W : World, Calls Tryd.prog 16 #[.string s, .int .i64 i] W fun e w' => e = .returned (.int .i64 tv) ∧ Below W.heap.size W w') := fun W => by have h := takes_c s hs i W; rw [htv] at h; exact h
  have HRk : Hid (∀ W : World, Calls Tryd.prog 17 #[.string s, .int .i64 i] W fun e w' => e = .returned (.int .i64 tv) ∧ w' = W) := fun W => by have h := rTakes_c s i W; rw [toL, htv] at h; exact h
  have HSh : Hid (∀ W : World, GP W → Calls Tryd.prog 11 #[.int .i64 n] W fun e w' => e = .returned (.string sh) ∧ Below W.heap.size W w') := fun W hg => by have h := show_c n wn W hg; rw [hsh] at h; exact h
  have HRh : Hid (∀ W : World, Calls Tryd.prog 18 #[.int .i64 n] W fun e w' => e = .returned (.string sh) ∧ Below W.heap.size W w') := fun W => by have h := rShow_c n wn W; rw [hsh] at h; exact h
  have hgd := guardP
  have hq : ∀ W : World, (binOp .eql 26 (.agg #[.int .i64 ka, .int .i64 na, .string ta]) (.agg #[.int .i64 ka, .int .i64 na, .string ta])).run Tryd.prog W = .ok (.bool true) W := fun W => by rw [eqPrim]; simp
  have hli : (ps.length : Int) ≤ 10 := by omega
  clear hA hE hsm hsv htv hsh hG hs hps hwf wn hlen
  generalize ps.length = len at *
  go_enter Tryd.func4, Tryd.ntmps4
  go_wp2_with (go_at_call 5; fail)
  refine (lives_c _).mono ?_
  rintro e w1 ⟨rfl, hb⟩
  have HB1 : Hid (Below w.heap.size w w1) := hb
  clear hb
  go_wp2_with (go_at_call 8; fail)
  refine (HAp.out _ HB1.out).mono ?_
  rintro e w2 ⟨rfl, hb⟩
  have HB2 : Hid (Below w.heap.size w w2) := HB1.out.trans (hb.mono HB1.out.size)
  clear hb
  have HB3 : Hid (Below w.heap.size w (w2.alloc (.cells #[.int .i64 ka, .int .i64 na, .string ta] 26))) := HB2.out.alloc HB2.out.size _
  obtain ⟨P1, hP1⟩ : ∃ P, w2.heap.size = P := ⟨_, rfl⟩
  have HP1 : Hid (Blk (w2.alloc (.cells #[.int .i64 ka, .int .i64 na, .string ta] 26)) P1 #[.int .i64 ka, .int .i64 na, .string ta] 26) := by rw [← hP1]; exact Blk.new _ _ _
  go_wp2_with (go_at_call 12; fail)
  refine (HRp.out _ HB3.out).mono ?_
  rintro e w4 ⟨rfl, hb⟩
  have HB4 : Hid (Below w.heap.size w w4) := HB3.out.trans (hb.mono HB3.out.size)
  have HP1 : Hid (Blk w4 P1 #[.int .i64 ka, .int .i64 na, .string ta] 26) := HP1.out.below hb
  clear hb
  obtain ⟨c0P1, c1P1, c2P1, -, -, -⟩ := HP1.out.all3
  have lP1 := HP1.out.lt
  have HB5 : Hid (Below w.heap.size w (w4.alloc (.cells #[.int .i64 ka, .int .i64 na, .string ta] 26))) := HB4.out.alloc HB4.out.size _
  have HP1 : Hid (Blk (w4.alloc (.cells #[.int .i64 ka, .int .i64 na, .string ta] 26)) P1 #[.int .i64 ka, .int .i64 na, .string ta] 26) := HP1.out.alloc _
  go_wp2_with (go_at_call 13; fail)
  refine (HSi.out _).mono ?_
  rintro e w6 ⟨rfl, hb⟩
  have HB6 : Hid (Below w.heap.size w w6) := HB5.out.trans (hb.mono HB5.out.size)
  clear hb
  go_wp2_with (go_at_call 14; fail)
  refine (HRi.out _).mono ?_
  rintro e w' ⟨rfl, hw'⟩
  have hw2 := hw'.symm
  clear hw'
  subst hw2
  have hsmb : (sm == sm) = true := by simp
  go_wp2_with (go_at_call 10; fail)
  refine (HSt.out _).mono ?_
  rintro e w7 ⟨rfl, hb⟩
  have HB7 : Hid (Below w.heap.size w w7) := HB6.out.trans (hb.mono HB6.out.size)
  clear hb
  go_wp2_with (go_at_call 15; fail)
  refine (HRt.out _).mono ?_
  rintro e w' ⟨rfl, hw'⟩
  have hw2 := hw'.symm
  clear hw'
  subst hw2
  go_wp2_with (go_at_call 16; fail)
  refine (HTk.out _).mono ?_
  rintro e w8 ⟨rfl, hb⟩
  have HB8 : Hid (Below w.heap.size w w8) := HB7.out.trans (hb.mono HB7.out.size)
  clear hb
  go_wp2_with (go_at_call 17; fail)
  refine (HRk.out _).mono ?_
  rintro e w' ⟨rfl, hw'⟩
  have hw2 := hw'.symm
  clear hw'
  subst hw2
  have HGl : Hid (GP w8) := HG.out.below HB8.out
  go_wp2_with (go_at_call 11; fail)
  refine (HSh.out _ HGl.out).mono ?_
  rintro e w9 ⟨rfl, hb⟩
  have HB9 : Hid (Below w.heap.size w w9) := HB8.out.trans (hb.mono HB8.out.size)
  clear hb
  go_wp2_with (go_at_call 18; fail)
  refine (HRh.out _).mono ?_
  rintro e w10 ⟨rfl, hb⟩
  have HB10 : Hid (Below w.heap.size w w10) := HB9.out.trans (hb.mono HB9.out.size)
  clear hb
  go_wp2_with (go_at_call 6; fail)
  refine (names_c _).mono ?_
  rintro e wn1 ⟨gN, capN, rfl, hrow, hb⟩
  have HBn : Hid (Below w.heap.size w wn1) := HB10.out.trans (hb.mono HB10.out.size)
  have HTn : Hid (TxAt wn1 gN allN) := txAt_row hrow (by decide)
  clear hb hrow
  go_wp2_with (go_at_call 20; fail)
  refine (rNames_c _).mono ?_
  rintro e wn2 ⟨rfl, hw⟩
  have HBm : Hid (Below w.heap.size w wn2) := by rw [hw]; exact HBn.out.alloc HBn.out.size _
  have HTm : Hid (TxAt wn2 gN allN) := by rw [hw]; exact HTn.out.below (below1 wn1 _)
  have HTr : Hid (TxAt wn2 wn1.heap.size allN) := by rw [hw]; exact txAt_new wn1 allN
  clear hw
  go_wp2_with (go_at_call 19; fail)
  refine (same_c allN (by decide) gN wn1.heap.size capN 24 wn2 HTm.out HTr.out).mono ?_
  rintro e wn3 ⟨rfl, hb⟩
  have HBl : Hid (Below w.heap.size w wn3) := HBm.out.trans (hb.mono HBm.out.size)
  clear hb
  go_wp2
  go_ret
  exact ⟨rfl, HBl.out⟩
end Go.Proofs.YtijafedpaghhaaaDoor
