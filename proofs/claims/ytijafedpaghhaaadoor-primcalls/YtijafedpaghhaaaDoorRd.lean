/-
  The document's Apply where all is well, by contracts.
-/
import Derived.Test.YtijafedpaghhaaaDoorRc
namespace Go.Proofs.YtijafedpaghhaaaDoor
open Go.RowKit Go.Shelf Go.Maps
set_option linter.unusedVariables false

set_option maxRecDepth 100000 in
set_option maxHeartbeats 4000000 in
theorem rapply_ord (s : ByteArray) (o : Option Addr) (cap : Nat) (ps : List PT) (w : World) (tk : Int) (gm : Int → Int → Value) (hop : opOf s.toList = some (tk, gm)) (har : (ps.length : Int) = arM s.toList) (hl2 : ps.length ≤ 2) (hl1 : ps.length = 1) (hps : PsIn w w.heap.size o ps)
    (hok : ∀ i (h : i < ps.length), okP tk ps[i] = true) (hs : s.toList = [111, 114, 100]) :
    Calls Tryd.prog 12 #[.string s, .slice o ps.length cap] w fun e w' => e = .returned (.tuple #[pv 1 (ps[0]).n noText, .int .i64 0]) ∧ Below w.heap.size w w' := by
  obtain ⟨g, off, rfl, hg, hA⟩ := hps.at 0 (by omega)
  have HAt : Hid (∀ X : World, Below w.heap.size w X → PsAt X ps g off) := fun X hX => hA.below hg hX
  have HOk : Hid (∀ i (h : i < ps.length), okP tk ps[i] = true) := hok
  have HG : Hid (g < w.heap.size) := hg
  obtain ⟨a, hq0⟩ : ∃ a, (ps[0]).n = a := ⟨_, rfl⟩
  have HQ : Hid (∀ X : World, Below w.heap.size w X → X.cell? ⟨g, off + 1, none⟩ = some (.int .i64 a)) := fun X hX => by
    have h0 := (hA.below hg hX 0 (by omega)).2.1
    rw [hq0] at h0
    simpa using h0
  rw [hq0]
  have to : (s.toList == [111, 114, 100]) = true := by rw [hs]; decide
  clear hok hg hA hq0 hs
  have hsi : simpleM s.toList = true := by unfold simpleM; rw [hop]; rfl
  have HSi : Hid (∀ W : World, Calls Tryd.prog 14 #[.string s] W fun e w' => e = .returned (.bool true) ∧ w' = W) := fun W => by have := rSimple_c s W; rw [hsi] at this; exact this
  have HA : Hid (∀ W : World, Calls Tryd.prog 32 #[.string s] W fun e w' => e = .returned (.int .i64 (ps.length : Int)) ∧ w' = W) := fun W => by rw [har]; exact rArity_c s W
  have HTk : Hid (∀ (k : Nat) (W : World), k < ps.length → Calls Tryd.prog 17 #[.string s, .int .i64 (k : Int)] W fun e w' => e = .returned (.int .i64 tk) ∧ w' = W) := fun k W hk => rTakes_yes s k tk gm hop (by omega) (by omega) W
  obtain ⟨n, hn⟩ : ∃ n, ps.length = n := ⟨_, rfl⟩
  have HN : Hid (ps.length = n) := hn
  rw [hn] at HA ⊢
  have hn2 : (n : Int) ≤ 2 := by rw [← hn]; omega
  clear hsi hn hps hl2 har
  have HN0 : Hid (n = 1) := by show _ = _; rw [← HN.out]; exact hl1
  clear hl1 hop
  go_enter Tryd.func12, Tryd.ntmps12
  go_wp2_with (first | (go_at_call 14; refine (HSi.out _).mono ?_; rintro e w' ⟨rfl, rfl⟩) | (go_at_call 32; refine (HA.out _).mono ?_; rintro e w' ⟨rfl, rfl⟩))
  have HS0 : Hid (RSt w (w.alloc (.cells #[.int .i64 0, .int .i64 0, .string ⟨#[]⟩] 26))) := ⟨below1 _ _, Blk.new _ _ _⟩
  clear HSi HA
  go_loopw [6] (fun i wr => ∃ k : Nat, k ≤ n ∧ i = .int .i64 k ∧ Hid (RSt w wr)) (fun i _ => n - (intOf i).toNat)
  case atStart => exact ⟨0, Nat.zero_le _, rfl, HS0⟩
  case round =>
    obtain ⟨k, hk, rfl, hS⟩ := hrel
    obtain ⟨f0, f1, f2, z0, z1, z2⟩ := hS.out.2.all3
    have hgr : g < wr.heap.size := Nat.lt_of_lt_of_le HG.out hS.out.1.size
    have hAr : w.heap.size < wr.heap.size := hS.out.2.lt
    by_cases hkn : k < n
    · have hkf : k < ps.length := by rw [HN.out]; exact hkn
      obtain ⟨c0, c1, c2⟩ := HAt.out wr hS.out.1 k hkf
      have hko := HOk.out k hkf
      obtain ⟨⟨pk, pn, pt⟩, hp⟩ : ∃ p : PT, ps[k] = p := ⟨_, rfl⟩
      rw [hp] at c0 c1 c2 hko
      simp only at c0 c1 c2
      have HT1 : Hid (∀ W : World, Calls Tryd.prog 17 #[.string s, .int .i64 (k : Int)] W fun e w' => e = .returned (.int .i64 tk) ∧ w' = W) := fun W => HTk.out k W hkf
      have hkk : pk = tk := by simp [okP] at hko; exact hko.1
      have hmy : mayM pk pn pt = true := by simp [okP] at hko; exact hko.2
      subst hkk
      have hte : pt.toList.isEmpty = true := by simp [mayM] at hmy; simp [hmy.1]
      have hne : (pk != pk) = false := by simp
      have hor : ¬ pk = 2 ∨ inCode pn = true := by simp [mayM] at hmy; exact hmy.2
      clear hko hmy hp hk hkf
      by_cases h2 : pk = 2
      · have hin : inCode pn = true := by rcases hor with h | h; exact absurd h2 h; exact h
        have hlo : decide (pn < 0) = false := by simp [inCode] at hin; simp; omega
        have hhi : decide (255 < pn) = false := by simp [inCode] at hin; simp; omega
        have h22 : (pk == 2) = true := by simpa using h2
        clear hor hin h2
        go_wp2
        go_big_quiet ((go_at_call 17; exact Calls.quiet_of_same (HT1.out _)))
        go_wp2
        go_roundw
        case rel => exact ⟨k + 1, hkn, by go_num, rst_dn (hS.out.alloc _) _⟩
        case measure => simp [intOf]; omega
      · have h22 : (pk == 2) = false := by simpa using h2
        clear hor h2
        go_wp2
        go_big_quiet ((go_at_call 17; exact Calls.quiet_of_same (HT1.out _)))
        go_wp2
        go_roundw
        case rel => exact ⟨k + 1, hkn, by go_num, rst_dn (hS.out.alloc _) _⟩
        case measure => simp [intOf]; omega
    · obtain rfl : k = n := by omega
      have hn0 := HN0.out
      subst hn0
      clear hkn hk HN
      have c1 := HQ.out wr hS.out.1
      clear HQ HAt HOk
      go_wp2_with (go_at_call 33; fail)
      refine (rNumber_c a _).mono ?_
      rintro e w2 ⟨rfl, hb⟩
      have HB : Hid (Below w.heap.size w w2) := hS.out.1.trans (hb.mono hS.out.1.size)
      have HK : Hid (Blk w2 w.heap.size #[.int .i64 0, .int .i64 0, .string ⟨#[]⟩] 26) := hS.out.2.below hb
      clear hb f0 f1 f2 z0 z1 z2
      obtain ⟨f0, f1, f2, z0, z1, z2⟩ := HK.out.all3
      have hl := HK.out.lt
      simp only [pv]
      go_wp2
      have hB2 := below_sets3 HB.out w.heap.size (Nat.le_refl _) (.int .i64 1) (.int .i64 a) (.string noText)
      have hK := HK.out.sets3 (.int .i64 1) (.int .i64 a) (.string noText)
      generalize World.setCell _ _ _ = WF at hK hB2 ⊢
      obtain ⟨g0, g1, g2, _, _, _⟩ := hK.all3
      exact bodyPost_ret (v := .tuple #[pv 1 a noText, .int .i64 0]) (by simp [results, Tryd.results12, go_sem, g0, g1, g2, pv]) rfl ⟨rfl, hB2⟩
set_option maxRecDepth 100000 in
set_option maxHeartbeats 4000000 in
theorem rapply_chr (s : ByteArray) (o : Option Addr) (cap : Nat) (ps : List PT) (w : World) (tk : Int) (gm : Int → Int → Value) (hop : opOf s.toList = some (tk, gm)) (har : (ps.length : Int) = arM s.toList) (hl2 : ps.length ≤ 2) (hl1 : ps.length = 1) (hps : PsIn w w.heap.size o ps)
    (hok : ∀ i (h : i < ps.length), okP tk ps[i] = true) (hs : s.toList = [99, 104, 114]) (hc : inCode (ps[0]).n = true) :
    Calls Tryd.prog 12 #[.string s, .slice o ps.length cap] w fun e w' => e = .returned (.tuple #[pv 2 (ps[0]).n noText, .int .i64 0]) ∧ Below w.heap.size w w' := by
  obtain ⟨g, off, rfl, hg, hA⟩ := hps.at 0 (by omega)
  have HAt : Hid (∀ X : World, Below w.heap.size w X → PsAt X ps g off) := fun X hX => hA.below hg hX
  have HOk : Hid (∀ i (h : i < ps.length), okP tk ps[i] = true) := hok
  have HG : Hid (g < w.heap.size) := hg
  obtain ⟨a, hq0⟩ : ∃ a, (ps[0]).n = a := ⟨_, rfl⟩
  have HQ : Hid (∀ X : World, Below w.heap.size w X → X.cell? ⟨g, off + 1, none⟩ = some (.int .i64 a)) := fun X hX => by
    have h0 := (hA.below hg hX 0 (by omega)).2.1
    rw [hq0] at h0
    simpa using h0
  rw [hq0] at hc ⊢
  have to : (s.toList == [111, 114, 100]) = false := by rw [hs]; decide
  have tc : (s.toList == [99, 104, 114]) = true := by rw [hs]; decide
  clear hok hg hA hq0 hs
  have hsi : simpleM s.toList = true := by unfold simpleM; rw [hop]; rfl
  have HSi : Hid (∀ W : World, Calls Tryd.prog 14 #[.string s] W fun e w' => e = .returned (.bool true) ∧ w' = W) := fun W => by have := rSimple_c s W; rw [hsi] at this; exact this
  have HA : Hid (∀ W : World, Calls Tryd.prog 32 #[.string s] W fun e w' => e = .returned (.int .i64 (ps.length : Int)) ∧ w' = W) := fun W => by rw [har]; exact rArity_c s W
  have HTk : Hid (∀ (k : Nat) (W : World), k < ps.length → Calls Tryd.prog 17 #[.string s, .int .i64 (k : Int)] W fun e w' => e = .returned (.int .i64 tk) ∧ w' = W) := fun k W hk => rTakes_yes s k tk gm hop (by omega) (by omega) W
  obtain ⟨n, hn⟩ : ∃ n, ps.length = n := ⟨_, rfl⟩
  have HN : Hid (ps.length = n) := hn
  rw [hn] at HA ⊢
  have hn2 : (n : Int) ≤ 2 := by rw [← hn]; omega
  clear hsi hn hps hl2 har
  have HN0 : Hid (n = 1) := by show _ = _; rw [← HN.out]; exact hl1
  clear hl1 hop
  go_enter Tryd.func12, Tryd.ntmps12
  go_wp2_with (first | (go_at_call 14; refine (HSi.out _).mono ?_; rintro e w' ⟨rfl, rfl⟩) | (go_at_call 32; refine (HA.out _).mono ?_; rintro e w' ⟨rfl, rfl⟩))
  have HS0 : Hid (RSt w (w.alloc (.cells #[.int .i64 0, .int .i64 0, .string ⟨#[]⟩] 26))) := ⟨below1 _ _, Blk.new _ _ _⟩
  clear HSi HA
  go_loopw [6] (fun i wr => ∃ k : Nat, k ≤ n ∧ i = .int .i64 k ∧ Hid (RSt w wr)) (fun i _ => n - (intOf i).toNat)
  case atStart => exact ⟨0, Nat.zero_le _, rfl, HS0⟩
  case round =>
    obtain ⟨k, hk, rfl, hS⟩ := hrel
    obtain ⟨f0, f1, f2, z0, z1, z2⟩ := hS.out.2.all3
    have hgr : g < wr.heap.size := Nat.lt_of_lt_of_le HG.out hS.out.1.size
    have hAr : w.heap.size < wr.heap.size := hS.out.2.lt
    by_cases hkn : k < n
    · have hkf : k < ps.length := by rw [HN.out]; exact hkn
      obtain ⟨c0, c1, c2⟩ := HAt.out wr hS.out.1 k hkf
      have hko := HOk.out k hkf
      obtain ⟨⟨pk, pn, pt⟩, hp⟩ : ∃ p : PT, ps[k] = p := ⟨_, rfl⟩
      rw [hp] at c0 c1 c2 hko
      simp only at c0 c1 c2
      have HT1 : Hid (∀ W : World, Calls Tryd.prog 17 #[.string s, .int .i64 (k : Int)] W fun e w' => e = .returned (.int .i64 tk) ∧ w' = W) := fun W => HTk.out k W hkf
      have hkk : pk = tk := by simp [okP] at hko; exact hko.1
      have hmy : mayM pk pn pt = true := by simp [okP] at hko; exact hko.2
      subst hkk
      have hte : pt.toList.isEmpty = true := by simp [mayM] at hmy; simp [hmy.1]
      have hne : (pk != pk) = false := by simp
      have hor : ¬ pk = 2 ∨ inCode pn = true := by simp [mayM] at hmy; exact hmy.2
      clear hko hmy hp hk hkf
      by_cases h2 : pk = 2
      · have hin : inCode pn = true := by rcases hor with h | h; exact absurd h2 h; exact h
        have hlo : decide (pn < 0) = false := by simp [inCode] at hin; simp; omega
        have hhi : decide (255 < pn) = false := by simp [inCode] at hin; simp; omega
        have h22 : (pk == 2) = true := by simpa using h2
        clear hor hin h2
        go_wp2
        go_big_quiet ((go_at_call 17; exact Calls.quiet_of_same (HT1.out _)))
        go_wp2
        go_roundw
        case rel => exact ⟨k + 1, hkn, by go_num, rst_dn (hS.out.alloc _) _⟩
        case measure => simp [intOf]; omega
      · have h22 : (pk == 2) = false := by simpa using h2
        clear hor h2
        go_wp2
        go_big_quiet ((go_at_call 17; exact Calls.quiet_of_same (HT1.out _)))
        go_wp2
        go_roundw
        case rel => exact ⟨k + 1, hkn, by go_num, rst_dn (hS.out.alloc _) _⟩
        case measure => simp [intOf]; omega
    · obtain rfl : k = n := by omega
      have hn0 := HN0.out
      subst hn0
      clear hkn hk HN
      have c1 := HQ.out wr hS.out.1
      clear HQ HAt HOk
      have hlo : decide (a < 0) = false := by simp [inCode] at hc; simp; omega
      have hhi : decide (255 < a) = false := by simp [inCode] at hc; simp; omega
      clear hc
      go_wp2
      have HB : Hid (Below w.heap.size w wr) := hS.out.1
      have HK : Hid (Blk wr w.heap.size #[.int .i64 0, .int .i64 0, .string ⟨#[]⟩] 26) := hS.out.2
      have hB2 := below_sets3 HB.out w.heap.size (Nat.le_refl _) (.int .i64 2) (.int .i64 a) (.string ⟨#[]⟩)
      have hK := HK.out.sets3 (.int .i64 2) (.int .i64 a) (.string ⟨#[]⟩)
      generalize World.setCell _ _ _ = WF at hK hB2 ⊢
      obtain ⟨g0, g1, g2, _, _, _⟩ := hK.all3
      exact bodyPost_ret (v := .tuple #[pv 2 a noText, .int .i64 0]) (by simp [results, Tryd.results12, go_sem, g0, g1, g2, pv, noText]) rfl ⟨rfl, hB2⟩
set_option maxRecDepth 100000 in
set_option maxHeartbeats 4000000 in
theorem rapply_chrbad (s : ByteArray) (o : Option Addr) (cap : Nat) (ps : List PT) (w : World) (tk : Int) (gm : Int → Int → Value) (hop : opOf s.toList = some (tk, gm)) (har : (ps.length : Int) = arM s.toList) (hl2 : ps.length ≤ 2) (hl1 : ps.length = 1) (hps : PsIn w w.heap.size o ps)
    (hok : ∀ i (h : i < ps.length), okP tk ps[i] = true) (hs : s.toList = [99, 104, 114]) (hc : inCode (ps[0]).n = false) :
    Calls Tryd.prog 12 #[.string s, .slice o ps.length cap] w fun e w' => e = .returned (.tuple #[pv 4 0 chrRange, .int .i64 0]) ∧ Below w.heap.size w w' := by
  obtain ⟨g, off, rfl, hg, hA⟩ := hps.at 0 (by omega)
  have HAt : Hid (∀ X : World, Below w.heap.size w X → PsAt X ps g off) := fun X hX => hA.below hg hX
  have HOk : Hid (∀ i (h : i < ps.length), okP tk ps[i] = true) := hok
  have HG : Hid (g < w.heap.size) := hg
  obtain ⟨a, hq0⟩ : ∃ a, (ps[0]).n = a := ⟨_, rfl⟩
  have HQ : Hid (∀ X : World, Below w.heap.size w X → X.cell? ⟨g, off + 1, none⟩ = some (.int .i64 a)) := fun X hX => by
    have h0 := (hA.below hg hX 0 (by omega)).2.1
    rw [hq0] at h0
    simpa using h0
  rw [hq0] at hc
  have to : (s.toList == [111, 114, 100]) = false := by rw [hs]; decide
  have tc : (s.toList == [99, 104, 114]) = true := by rw [hs]; decide
  clear hok hg hA hq0 hs
  have hsi : simpleM s.toList = true := by unfold simpleM; rw [hop]; rfl
  have HSi : Hid (∀ W : World, Calls Tryd.prog 14 #[.string s] W fun e w' => e = .returned (.bool true) ∧ w' = W) := fun W => by have := rSimple_c s W; rw [hsi] at this; exact this
  have HA : Hid (∀ W : World, Calls Tryd.prog 32 #[.string s] W fun e w' => e = .returned (.int .i64 (ps.length : Int)) ∧ w' = W) := fun W => by rw [har]; exact rArity_c s W
  have HTk : Hid (∀ (k : Nat) (W : World), k < ps.length → Calls Tryd.prog 17 #[.string s, .int .i64 (k : Int)] W fun e w' => e = .returned (.int .i64 tk) ∧ w' = W) := fun k W hk => rTakes_yes s k tk gm hop (by omega) (by omega) W
  obtain ⟨n, hn⟩ : ∃ n, ps.length = n := ⟨_, rfl⟩
  have HN : Hid (ps.length = n) := hn
  rw [hn] at HA ⊢
  have hn2 : (n : Int) ≤ 2 := by rw [← hn]; omega
  clear hsi hn hps hl2 har
  have HN0 : Hid (n = 1) := by show _ = _; rw [← HN.out]; exact hl1
  clear hl1 hop
  go_enter Tryd.func12, Tryd.ntmps12
  go_wp2_with (first | (go_at_call 14; refine (HSi.out _).mono ?_; rintro e w' ⟨rfl, rfl⟩) | (go_at_call 32; refine (HA.out _).mono ?_; rintro e w' ⟨rfl, rfl⟩))
  have HS0 : Hid (RSt w (w.alloc (.cells #[.int .i64 0, .int .i64 0, .string ⟨#[]⟩] 26))) := ⟨below1 _ _, Blk.new _ _ _⟩
  clear HSi HA
  go_loopw [6] (fun i wr => ∃ k : Nat, k ≤ n ∧ i = .int .i64 k ∧ Hid (RSt w wr)) (fun i _ => n - (intOf i).toNat)
  case atStart => exact ⟨0, Nat.zero_le _, rfl, HS0⟩
  case round =>
    obtain ⟨k, hk, rfl, hS⟩ := hrel
    obtain ⟨f0, f1, f2, z0, z1, z2⟩ := hS.out.2.all3
    have hgr : g < wr.heap.size := Nat.lt_of_lt_of_le HG.out hS.out.1.size
    have hAr : w.heap.size < wr.heap.size := hS.out.2.lt
    by_cases hkn : k < n
    · have hkf : k < ps.length := by rw [HN.out]; exact hkn
      obtain ⟨c0, c1, c2⟩ := HAt.out wr hS.out.1 k hkf
      have hko := HOk.out k hkf
      obtain ⟨⟨pk, pn, pt⟩, hp⟩ : ∃ p : PT, ps[k] = p := ⟨_, rfl⟩
      rw [hp] at c0 c1 c2 hko
      simp only at c0 c1 c2
      have HT1 : Hid (∀ W : World, Calls Tryd.prog 17 #[.string s, .int .i64 (k : Int)] W fun e w' => e = .returned (.int .i64 tk) ∧ w' = W) := fun W => HTk.out k W hkf
      have hkk : pk = tk := by simp [okP] at hko; exact hko.1
      have hmy : mayM pk pn pt = true := by simp [okP] at hko; exact hko.2
      subst hkk
      have hte : pt.toList.isEmpty = true := by simp [mayM] at hmy; simp [hmy.1]
      have hne : (pk != pk) = false := by simp
      have hor : ¬ pk = 2 ∨ inCode pn = true := by simp [mayM] at hmy; exact hmy.2
      clear hko hmy hp hk hkf
      by_cases h2 : pk = 2
      · have hin : inCode pn = true := by rcases hor with h | h; exact absurd h2 h; exact h
        have hlo : decide (pn < 0) = false := by simp [inCode] at hin; simp; omega
        have hhi : decide (255 < pn) = false := by simp [inCode] at hin; simp; omega
        have h22 : (pk == 2) = true := by simpa using h2
        clear hor hin h2
        go_wp2
        go_big_quiet ((go_at_call 17; exact Calls.quiet_of_same (HT1.out _)))
        go_wp2
        go_roundw
        case rel => exact ⟨k + 1, hkn, by go_num, rst_dn (hS.out.alloc _) _⟩
        case measure => simp [intOf]; omega
      · have h22 : (pk == 2) = false := by simpa using h2
        clear hor h2
        go_wp2
        go_big_quiet ((go_at_call 17; exact Calls.quiet_of_same (HT1.out _)))
        go_wp2
        go_roundw
        case rel => exact ⟨k + 1, hkn, by go_num, rst_dn (hS.out.alloc _) _⟩
        case measure => simp [intOf]; omega
    · obtain rfl : k = n := by omega
      have hn0 := HN0.out
      subst hn0
      clear hkn hk HN
      have c1 := HQ.out wr hS.out.1
      clear HQ HAt HOk
      by_cases hlt : a < 0
      · have hlo : decide (a < 0) = true := by simpa using hlt
        clear hc hlt
        go_wp2_with (go_at_call 34; fail)
        refine (rFail_c chrRange _).mono ?_
        rintro e w2 ⟨rfl, hb⟩
        have HB : Hid (Below w.heap.size w w2) := hS.out.1.trans (hb.mono hS.out.1.size)
        have HK : Hid (Blk w2 w.heap.size #[.int .i64 0, .int .i64 0, .string ⟨#[]⟩] 26) := hS.out.2.below hb
        clear hb f0 f1 f2 z0 z1 z2
        obtain ⟨f0, f1, f2, z0, z1, z2⟩ := HK.out.all3
        have hl := HK.out.lt
        simp only [pv]
        go_wp2
        have hB2 := below_sets3 HB.out w.heap.size (Nat.le_refl _) (.int .i64 4) (.int .i64 0) (.string chrRange)
        have hK := HK.out.sets3 (.int .i64 4) (.int .i64 0) (.string chrRange)
        generalize World.setCell _ _ _ = WF at hK hB2 ⊢
        obtain ⟨g0, g1, g2, _, _, _⟩ := hK.all3
        exact bodyPost_ret (v := .tuple #[pv 4 0 chrRange, .int .i64 0]) (by simp [results, Tryd.results12, go_sem, g0, g1, g2, pv]) rfl ⟨rfl, hB2⟩
      · have hlo : decide (a < 0) = false := by simpa using hlt
        have hhi : decide (255 < a) = true := by simp [inCode] at hc; simp; omega
        clear hc hlt
        go_wp2_with (go_at_call 34; fail)
        refine (rFail_c chrRange _).mono ?_
        rintro e w2 ⟨rfl, hb⟩
        have HB : Hid (Below w.heap.size w w2) := hS.out.1.trans (hb.mono hS.out.1.size)
        have HK : Hid (Blk w2 w.heap.size #[.int .i64 0, .int .i64 0, .string ⟨#[]⟩] 26) := hS.out.2.below hb
        clear hb f0 f1 f2 z0 z1 z2
        obtain ⟨f0, f1, f2, z0, z1, z2⟩ := HK.out.all3
        have hl := HK.out.lt
        simp only [pv]
        go_wp2
        have hB2 := below_sets3 HB.out w.heap.size (Nat.le_refl _) (.int .i64 4) (.int .i64 0) (.string chrRange)
        have hK := HK.out.sets3 (.int .i64 4) (.int .i64 0) (.string chrRange)
        generalize World.setCell _ _ _ = WF at hK hB2 ⊢
        obtain ⟨g0, g1, g2, _, _, _⟩ := hK.all3
        exact bodyPost_ret (v := .tuple #[pv 4 0 chrRange, .int .i64 0]) (by simp [results, Tryd.results12, go_sem, g0, g1, g2, pv]) rfl ⟨rfl, hB2⟩
set_option maxRecDepth 100000 in
set_option maxHeartbeats 4000000 in
theorem rapply_two (s : ByteArray) (o : Option Addr) (cap : Nat) (ps : List PT) (w : World) (tk : Int) (gm : Int → Int → Value) (hop : opOf s.toList = some (tk, gm)) (har : (ps.length : Int) = arM s.toList) (hl2 : ps.length ≤ 2) (hl1 : ps.length = 2) (hps : PsIn w w.heap.size o ps)
    (hok : ∀ i (h : i < ps.length), okP tk ps[i] = true) (hs1 : s.toList ≠ [111, 114, 100]) (hs2 : s.toList ≠ [99, 104, 114]) (kv nv : Int) (tv : ByteArray) (hgm : gm (ps[0]).n (ps[1]).n = pv kv nv tv) :
    Calls Tryd.prog 12 #[.string s, .slice o ps.length cap] w fun e w' => e = .returned (.tuple #[pv kv nv tv, .int .i64 0]) ∧ Below w.heap.size w w' := by
  obtain ⟨g, off, rfl, hg, hA⟩ := hps.at 0 (by omega)
  have HAt : Hid (∀ X : World, Below w.heap.size w X → PsAt X ps g off) := fun X hX => hA.below hg hX
  have HOk : Hid (∀ i (h : i < ps.length), okP tk ps[i] = true) := hok
  have HG : Hid (g < w.heap.size) := hg
  obtain ⟨a, hq0⟩ : ∃ a, (ps[0]).n = a := ⟨_, rfl⟩
  obtain ⟨b, hq1⟩ : ∃ b, (ps[1]).n = b := ⟨_, rfl⟩
  have HQ : Hid (∀ X : World, Below w.heap.size w X → X.cell? ⟨g, off + 1, none⟩ = some (.int .i64 a) ∧ X.cell? ⟨g, off + 3 + 1, none⟩ = some (.int .i64 b)) := fun X hX => by
    have h0 := (hA.below hg hX 0 (by omega)).2.1
    rw [hq0] at h0
    have h1 := (hA.below hg hX 1 (by omega)).2.1
    rw [hq1] at h1
    exact ⟨by simpa using h0, by simpa using h1⟩
  rw [hq0, hq1] at hgm
  have to : (s.toList == [111, 114, 100]) = false := by simpa using hs1
  have tc : (s.toList == [99, 104, 114]) = false := by simpa using hs2
  have HTw : Hid (∀ W : World, Calls Tryd.prog 35 #[.string s, .int .i64 a, .int .i64 b] W fun e w' => e = .returned (pv kv nv tv) ∧ Below W.heap.size W w') := fun W => by have := rtwo_c s tk gm hop hs1 hs2 a b W; rw [hgm] at this; exact this
  clear hok hg hA hq0 hq1 hs1 hs2 hgm
  have hsi : simpleM s.toList = true := by unfold simpleM; rw [hop]; rfl
  have HSi : Hid (∀ W : World, Calls Tryd.prog 14 #[.string s] W fun e w' => e = .returned (.bool true) ∧ w' = W) := fun W => by have := rSimple_c s W; rw [hsi] at this; exact this
  have HA : Hid (∀ W : World, Calls Tryd.prog 32 #[.string s] W fun e w' => e = .returned (.int .i64 (ps.length : Int)) ∧ w' = W) := fun W => by rw [har]; exact rArity_c s W
  have HTk : Hid (∀ (k : Nat) (W : World), k < ps.length → Calls Tryd.prog 17 #[.string s, .int .i64 (k : Int)] W fun e w' => e = .returned (.int .i64 tk) ∧ w' = W) := fun k W hk => rTakes_yes s k tk gm hop (by omega) (by omega) W
  obtain ⟨n, hn⟩ : ∃ n, ps.length = n := ⟨_, rfl⟩
  have HN : Hid (ps.length = n) := hn
  rw [hn] at HA ⊢
  have hn2 : (n : Int) ≤ 2 := by rw [← hn]; omega
  clear hsi hn hps hl2 har
  have HN0 : Hid (n = 2) := by show _ = _; rw [← HN.out]; exact hl1
  clear hl1 hop
  go_enter Tryd.func12, Tryd.ntmps12
  go_wp2_with (first | (go_at_call 14; refine (HSi.out _).mono ?_; rintro e w' ⟨rfl, rfl⟩) | (go_at_call 32; refine (HA.out _).mono ?_; rintro e w' ⟨rfl, rfl⟩))
  have HS0 : Hid (RSt w (w.alloc (.cells #[.int .i64 0, .int .i64 0, .string ⟨#[]⟩] 26))) := ⟨below1 _ _, Blk.new _ _ _⟩
  clear HSi HA
  go_loopw [6] (fun i wr => ∃ k : Nat, k ≤ n ∧ i = .int .i64 k ∧ Hid (RSt w wr)) (fun i _ => n - (intOf i).toNat)
  case atStart => exact ⟨0, Nat.zero_le _, rfl, HS0⟩
  case round =>
    obtain ⟨k, hk, rfl, hS⟩ := hrel
    obtain ⟨f0, f1, f2, z0, z1, z2⟩ := hS.out.2.all3
    have hgr : g < wr.heap.size := Nat.lt_of_lt_of_le HG.out hS.out.1.size
    have hAr : w.heap.size < wr.heap.size := hS.out.2.lt
    by_cases hkn : k < n
    · have hkf : k < ps.length := by rw [HN.out]; exact hkn
      obtain ⟨c0, c1, c2⟩ := HAt.out wr hS.out.1 k hkf
      have hko := HOk.out k hkf
      obtain ⟨⟨pk, pn, pt⟩, hp⟩ : ∃ p : PT, ps[k] = p := ⟨_, rfl⟩
      rw [hp] at c0 c1 c2 hko
      simp only at c0 c1 c2
      have HT1 : Hid (∀ W : World, Calls Tryd.prog 17 #[.string s, .int .i64 (k : Int)] W fun e w' => e = .returned (.int .i64 tk) ∧ w' = W) := fun W => HTk.out k W hkf
      have hkk : pk = tk := by simp [okP] at hko; exact hko.1
      have hmy : mayM pk pn pt = true := by simp [okP] at hko; exact hko.2
      subst hkk
      have hte : pt.toList.isEmpty = true := by simp [mayM] at hmy; simp [hmy.1]
      have hne : (pk != pk) = false := by simp
      have hor : ¬ pk = 2 ∨ inCode pn = true := by simp [mayM] at hmy; exact hmy.2
      clear hko hmy hp hk hkf
      by_cases h2 : pk = 2
      · have hin : inCode pn = true := by rcases hor with h | h; exact absurd h2 h; exact h
        have hlo : decide (pn < 0) = false := by simp [inCode] at hin; simp; omega
        have hhi : decide (255 < pn) = false := by simp [inCode] at hin; simp; omega
        have h22 : (pk == 2) = true := by simpa using h2
        clear hor hin h2
        go_wp2
        go_big_quiet ((go_at_call 17; exact Calls.quiet_of_same (HT1.out _)))
        go_wp2
        go_roundw
        case rel => exact ⟨k + 1, hkn, by go_num, rst_dn (hS.out.alloc _) _⟩
        case measure => simp [intOf]; omega
      · have h22 : (pk == 2) = false := by simpa using h2
        clear hor h2
        go_wp2
        go_big_quiet ((go_at_call 17; exact Calls.quiet_of_same (HT1.out _)))
        go_wp2
        go_roundw
        case rel => exact ⟨k + 1, hkn, by go_num, rst_dn (hS.out.alloc _) _⟩
        case measure => simp [intOf]; omega
    · obtain rfl : k = n := by omega
      have hn0 := HN0.out
      subst hn0
      clear hkn hk HN
      obtain ⟨c1, c4⟩ := HQ.out wr hS.out.1
      clear HQ HAt HOk
      go_wp2_with (go_at_call 35; fail)
      refine (HTw.out _).mono ?_
      rintro e w2 ⟨rfl, hb⟩
      have HB : Hid (Below w.heap.size w w2) := hS.out.1.trans (hb.mono hS.out.1.size)
      have HK : Hid (Blk w2 w.heap.size #[.int .i64 0, .int .i64 0, .string ⟨#[]⟩] 26) := hS.out.2.below hb
      clear hb f0 f1 f2 z0 z1 z2
      obtain ⟨f0, f1, f2, z0, z1, z2⟩ := HK.out.all3
      have hl := HK.out.lt
      simp only [pv]
      go_wp2
      have hB2 := below_sets3 HB.out w.heap.size (Nat.le_refl _) (.int .i64 kv) (.int .i64 nv) (.string tv)
      have hK := HK.out.sets3 (.int .i64 kv) (.int .i64 nv) (.string tv)
      generalize World.setCell _ _ _ = WF at hK hB2 ⊢
      obtain ⟨g0, g1, g2, _, _, _⟩ := hK.all3
      exact bodyPost_ret (v := .tuple #[pv kv nv tv, .int .i64 0]) (by simp [results, Tryd.results12, go_sem, g0, g1, g2, pv]) rfl ⟨rfl, hB2⟩
end Go.Proofs.YtijafedpaghhaaaDoor
