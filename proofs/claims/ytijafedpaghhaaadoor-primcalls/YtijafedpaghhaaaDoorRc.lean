/-
  The document's Apply, by contracts.
-/
import Derived.Test.YtijafedpaghhaaaDoorRb
namespace Go.Proofs.YtijafedpaghhaaaDoor
open Go.RowKit Go.Shelf Go.Maps
set_option linter.unusedVariables false

theorem rtwo_c (s : ByteArray) (tk : Int) (g : Int → Int → Value) (h : opOf s.toList = some (tk, g)) (h1 : s.toList ≠ [111, 114, 100]) (h2 : s.toList ≠ [99, 104, 114]) (a b : Int) (w : World) : Calls Tryd.prog 35 #[.string s, .int .i64 a, .int .i64 b] w fun e w' => e = .returned (g a b) ∧ Below w.heap.size w w' := by
  by_cases k0 : s.toList = [97, 100, 100]
  · obtain rfl : addM = g := by rw [k0] at h; simp [opOf] at h; exact h.2
    exact rtwo_add s k0 a b w
  by_cases k1 : s.toList = [115, 117, 98]
  · obtain rfl : subM = g := by rw [k1] at h; simp [opOf] at h; exact h.2
    exact rtwo_sub s k1 a b w
  by_cases k2 : s.toList = [109, 117, 108]
  · obtain rfl : mulM = g := by rw [k2] at h; simp [opOf] at h; exact h.2
    exact rtwo_mul s k2 a b w
  by_cases k3 : s.toList = [113, 117, 111, 116]
  · obtain rfl : quotM = g := by rw [k3] at h; simp [opOf] at h; exact h.2
    exact rtwo_quot s k3 a b w
  by_cases k4 : s.toList = [114, 101, 109]
  · obtain rfl : remM = g := by rw [k4] at h; simp [opOf] at h; exact h.2
    exact rtwo_rem s k4 a b w
  by_cases k5 : s.toList = [101, 113]
  · obtain rfl : eqM = g := by rw [k5] at h; simp [opOf] at h; exact h.2
    exact rtwo_eq s k5 a b w
  by_cases k6 : s.toList = [110, 101]
  · obtain rfl : neM = g := by rw [k6] at h; simp [opOf] at h; exact h.2
    exact rtwo_ne s k6 a b w
  by_cases k7 : s.toList = [108, 116]
  · obtain rfl : ltM = g := by rw [k7] at h; simp [opOf] at h; exact h.2
    exact rtwo_lt s k7 a b w
  by_cases k8 : s.toList = [108, 101]
  · obtain rfl : leM = g := by rw [k8] at h; simp [opOf] at h; exact h.2
    exact rtwo_le s k8 a b w
  by_cases k9 : s.toList = [103, 116]
  · obtain rfl : gtM = g := by rw [k9] at h; simp [opOf] at h; exact h.2
    exact rtwo_gt s k9 a b w
  by_cases k10 : s.toList = [103, 101]
  · obtain rfl : geM = g := by rw [k10] at h; simp [opOf] at h; exact h.2
    exact rtwo_ge s k10 a b w
  by_cases k11 : s.toList = [99, 101, 113]
  · obtain rfl : eqM = g := by rw [k11] at h; simp [opOf] at h; exact h.2
    exact rtwo_ceq s k11 a b w
  by_cases k12 : s.toList = [99, 108, 116]
  · obtain rfl : ltM = g := by rw [k12] at h; simp [opOf] at h; exact h.2
    exact rtwo_clt s k12 a b w
  exfalso
  simp [opOf, *] at h
/-- What stands while the arguments are gone through. -/
def RSt (w W : World) : Prop := Below w.heap.size w W ∧ Blk W w.heap.size #[.int .i64 0, .int .i64 0, .string ⟨#[]⟩] 26
theorem RSt.alloc {w W : World} (h : RSt w W) (o : Obj) : RSt w (W.alloc o) := ⟨h.1.alloc h.1.size _, h.2.alloc _⟩
theorem rst_dn {w W : World} (h : RSt w W) (n : Nat) : RSt w (W.drewN n) := ⟨⟨h.1.os, h.1.tape, h.1.output, h.1.size, h.1.block⟩, h.2⟩
set_option maxRecDepth 100000 in
set_option maxHeartbeats 2000000 in
theorem rapply_none (s : ByteArray) (o : Option Addr) (len cap : Nat) (w : World) (h : simpleM s.toList = false) :
    Calls Tryd.prog 12 #[.string s, .slice o len cap] w fun e w' => e = .returned refused ∧ Below w.heap.size w w' := by
  have HSi : Hid (∀ W : World, Calls Tryd.prog 14 #[.string s] W fun e w' => e = .returned (.bool false) ∧ w' = W) := fun W => by have := rSimple_c s W; rw [h] at this; exact this
  clear h
  go_enter Tryd.func12, Tryd.ntmps12
  go_wp2_with (go_at_call 14; refine (HSi.out _).mono ?_; rintro e w' ⟨rfl, rfl⟩)
  exact bodyPost_ret (v := refused) (by simp [results, Tryd.results12, go_sem, refused, pz, pv, noText]) rfl ⟨rfl, below1 _ _⟩
set_option maxRecDepth 100000 in
set_option maxHeartbeats 2000000 in
theorem rapply_len (s : ByteArray) (o : Option Addr) (len cap : Nat) (w : World) (h : simpleM s.toList = true) (hne : (len : Int) ≠ arM s.toList) :
    Calls Tryd.prog 12 #[.string s, .slice o len cap] w fun e w' => e = .returned refused ∧ Below w.heap.size w w' := by
  have HSi : Hid (∀ W : World, Calls Tryd.prog 14 #[.string s] W fun e w' => e = .returned (.bool true) ∧ w' = W) := fun W => by have := rSimple_c s W; rw [h] at this; exact this
  have HA : Hid (∀ W : World, Calls Tryd.prog 32 #[.string s] W fun e w' => e = .returned (.int .i64 (arM s.toList)) ∧ w' = W) := fun W => rArity_c s W
  clear h
  generalize arM s.toList = ar at *
  have hne2 : ((len : Int) != ar) = true := by simpa using hne
  clear hne
  go_enter Tryd.func12, Tryd.ntmps12
  go_wp2_with (first | (go_at_call 14; refine (HSi.out _).mono ?_; rintro e w' ⟨rfl, rfl⟩) | (go_at_call 32; refine (HA.out _).mono ?_; rintro e w' ⟨rfl, rfl⟩))
  exact bodyPost_ret (v := refused) (by simp [results, Tryd.results12, go_sem, refused, pz, pv, noText]) rfl ⟨rfl, below1 _ _⟩
set_option maxRecDepth 100000 in
set_option maxHeartbeats 4000000 in
theorem rapply_bad (s : ByteArray) (o : Option Addr) (cap : Nat) (ps : List PT) (w : World) (tk : Int) (gm : Int → Int → Value) (hop : opOf s.toList = some (tk, gm)) (har : (ps.length : Int) = arM s.toList) (hl2 : ps.length ≤ 2) (hps : PsIn w w.heap.size o ps)
    (j : Nat) (hj : j < ps.length) (hok : ∀ i (h : i < ps.length), i < j → okP tk ps[i] = true) (hbad : okP tk ps[j] = false) :
    Calls Tryd.prog 12 #[.string s, .slice o ps.length cap] w fun e w' => e = .returned refused ∧ Below w.heap.size w w' := by
  obtain ⟨g, off, rfl, hg, hA⟩ := hps.at j hj
  have HAt : Hid (∀ X : World, Below w.heap.size w X → PsAt X ps g off) := fun X hX => hA.below hg hX
  have HOk : Hid (∀ i (h : i < ps.length), i < j → okP tk ps[i] = true) := hok
  have HBad : Hid (∀ h : j < ps.length, okP tk ps[j] = false) := fun _ => hbad
  have HJ : Hid (j < ps.length) := hj
  have HG : Hid (g < w.heap.size) := hg
  clear hok hbad hj hg hA
  have hsi : simpleM s.toList = true := by unfold simpleM; rw [hop]; rfl
  have HSi : Hid (∀ W : World, Calls Tryd.prog 14 #[.string s] W fun e w' => e = .returned (.bool true) ∧ w' = W) := fun W => by have := rSimple_c s W; rw [hsi] at this; exact this
  have HA : Hid (∀ W : World, Calls Tryd.prog 32 #[.string s] W fun e w' => e = .returned (.int .i64 (ps.length : Int)) ∧ w' = W) := fun W => by rw [har]; exact rArity_c s W
  have HTk : Hid (∀ (k : Nat) (W : World), k < ps.length → Calls Tryd.prog 17 #[.string s, .int .i64 (k : Int)] W fun e w' => e = .returned (.int .i64 tk) ∧ w' = W) := fun k W hk => rTakes_yes s k tk gm hop (by omega) (by omega) W
  obtain ⟨n, hn⟩ : ∃ n, ps.length = n := ⟨_, rfl⟩
  have HN : Hid (ps.length = n) := hn
  rw [hn] at HA ⊢
  have hn2 : (n : Int) ≤ 2 := by rw [← hn]; omega
  clear hsi hn hps hl2 har
  clear hop
  go_enter Tryd.func12, Tryd.ntmps12
  go_wp2_with (first | (go_at_call 14; refine (HSi.out _).mono ?_; rintro e w' ⟨rfl, rfl⟩) | (go_at_call 32; refine (HA.out _).mono ?_; rintro e w' ⟨rfl, rfl⟩))
  have HS0 : Hid (RSt w (w.alloc (.cells #[.int .i64 0, .int .i64 0, .string ⟨#[]⟩] 26))) := ⟨below1 _ _, Blk.new _ _ _⟩
  clear HSi HA
  go_loopw [6] (fun i wr => ∃ k : Nat, k ≤ j ∧ i = .int .i64 k ∧ Hid (RSt w wr)) (fun i _ => n - (intOf i).toNat)
  case atStart => exact ⟨0, Nat.zero_le _, rfl, HS0⟩
  case round =>
    obtain ⟨k, hk, rfl, hS⟩ := hrel
    have hkf : k < ps.length := Nat.lt_of_le_of_lt hk HJ.out
    have hkn : k < n := by rw [← HN.out]; exact hkf
    obtain ⟨c0, c1, c2⟩ := HAt.out wr hS.out.1 k hkf
    obtain ⟨f0, f1, f2, z0, z1, z2⟩ := hS.out.2.all3
    have hgr : g < wr.heap.size := Nat.lt_of_lt_of_le HG.out hS.out.1.size
    have hAr : w.heap.size < wr.heap.size := hS.out.2.lt
    obtain ⟨⟨pk, pn, pt⟩, hp⟩ : ∃ p : PT, ps[k] = p := ⟨_, rfl⟩
    rw [hp] at c0 c1 c2
    simp only at c0 c1 c2
    have HT1 : Hid (∀ W : World, Calls Tryd.prog 17 #[.string s, .int .i64 (k : Int)] W fun e w' => e = .returned (.int .i64 tk) ∧ w' = W) := fun W => HTk.out k W hkf
    by_cases hkj : k < j
    · have hko : okP tk ⟨pk, pn, pt⟩ = true := by rw [← hp]; exact HOk.out k hkf hkj
      have hkk : pk = tk := by simp [okP] at hko; exact hko.1
      have hmy : mayM pk pn pt = true := by simp [okP] at hko; exact hko.2
      subst hkk
      have hte : pt.toList.isEmpty = true := by simp [mayM] at hmy; simp [hmy.1]
      have hne : (pk != pk) = false := by simp
      have hor : ¬ pk = 2 ∨ inCode pn = true := by simp [mayM] at hmy; exact hmy.2
      clear hko hmy hp hk hkf
      by_cases h2 : pk = 2
      · have hin : inCode pn = true := by rcases hor with h | h; exact absurd h2 h; exact h
        have hlo : decide (pn < 0) = false := by simp [inCode] at hin; simp; omega
        have hhi : decide (255 < pn) = false := by simp [inCode] at hin; simp; omega
        have h22 : (pk == 2) = true := by simpa using h2
        clear hor hin h2
        go_wp2
        go_big_quiet ((go_at_call 17; exact Calls.quiet_of_same (HT1.out _)))
        go_wp2
        go_roundw
        case rel => exact ⟨k + 1, hkj, by go_num, rst_dn (hS.out.alloc _) _⟩
        case measure => simp [intOf]; omega
      · have h22 : (pk == 2) = false := by simpa using h2
        clear hor h2
        go_wp2
        go_big_quiet ((go_at_call 17; exact Calls.quiet_of_same (HT1.out _)))
        go_wp2
        go_roundw
        case rel => exact ⟨k + 1, hkj, by go_num, rst_dn (hS.out.alloc _) _⟩
        case measure => simp [intOf]; omega
    · have hko : okP tk ⟨pk, pn, pt⟩ = false := by
        have hkj2 : k = j := by omega
        subst hkj2
        rw [← hp]; exact HBad.out hkf
      clear hp hk hkj hkf
      by_cases hkk : pk = tk
      · subst hkk
        have hne : (pk != pk) = false := by simp
        by_cases hte0 : pt.toList = []
        · have hte : pt.toList.isEmpty = true := by simp [hte0]
          have hin : pk = 2 ∧ inCode pn = false := by simp [okP, mayM, hte0] at hko; exact hko
          obtain ⟨h2, hin⟩ := hin
          have h22 : (pk == 2) = true := by simpa using h2
          by_cases hl0 : pn < 0
          · have hlo : decide (pn < 0) = true := by simpa using hl0
            clear hko hte0 h2 hin hl0
            go_wp2
            go_big_quiet ((go_at_call 17; exact Calls.quiet_of_same (HT1.out _)))
            have HS2 : Hid (RSt w ((wr.alloc (.cells #[.int .i64 pk, .int .i64 pn, .string pt] 26)).drewN nq)) := rst_dn (hS.out.alloc _) nq
            clear f0 f1 f2 z0 z1 z2 c0 c1 c2 hS
            generalize ((wr.alloc (.cells #[.int .i64 pk, .int .i64 pn, .string pt] 26)).drewN nq) = V at HS2 ⊢
            obtain ⟨f0, f1, f2, z0, z1, z2⟩ := HS2.out.2.all3
            have hAv : w.heap.size < V.heap.size := HS2.out.2.lt
            go_wp2
            have hB2 := below_sets3 HS2.out.1 w.heap.size (Nat.le_refl _) (.int .i64 0) (.int .i64 0) (.string ⟨#[]⟩)
            have hK := HS2.out.2.sets3 (.int .i64 0) (.int .i64 0) (.string ⟨#[]⟩)
            generalize World.setCell _ _ _ = WF at hK hB2 ⊢
            obtain ⟨g0, g1, g2, _, _, _⟩ := hK.all3
            exact bodyPost_ret (v := refused) (by simp [results, Tryd.results12, go_sem, g0, g1, g2, refused, pz, pv, noText]) rfl ⟨rfl, hB2⟩
          · have hlo : decide (pn < 0) = false := by simpa using hl0
            have hhi : decide (255 < pn) = true := by simp [inCode] at hin; simp; omega
            clear hko hte0 h2 hin hl0
            go_wp2
            go_big_quiet ((go_at_call 17; exact Calls.quiet_of_same (HT1.out _)))
            have HS2 : Hid (RSt w ((wr.alloc (.cells #[.int .i64 pk, .int .i64 pn, .string pt] 26)).drewN nq)) := rst_dn (hS.out.alloc _) nq
            clear f0 f1 f2 z0 z1 z2 c0 c1 c2 hS
            generalize ((wr.alloc (.cells #[.int .i64 pk, .int .i64 pn, .string pt] 26)).drewN nq) = V at HS2 ⊢
            obtain ⟨f0, f1, f2, z0, z1, z2⟩ := HS2.out.2.all3
            have hAv : w.heap.size < V.heap.size := HS2.out.2.lt
            go_wp2
            have hB2 := below_sets3 HS2.out.1 w.heap.size (Nat.le_refl _) (.int .i64 0) (.int .i64 0) (.string ⟨#[]⟩)
            have hK := HS2.out.2.sets3 (.int .i64 0) (.int .i64 0) (.string ⟨#[]⟩)
            generalize World.setCell _ _ _ = WF at hK hB2 ⊢
            obtain ⟨g0, g1, g2, _, _, _⟩ := hK.all3
            exact bodyPost_ret (v := refused) (by simp [results, Tryd.results12, go_sem, g0, g1, g2, refused, pz, pv, noText]) rfl ⟨rfl, hB2⟩
        · have hte : pt.toList.isEmpty = false := by simp [hte0]
          clear hko hte0
          go_wp2
          go_big_quiet ((go_at_call 17; exact Calls.quiet_of_same (HT1.out _)))
          have HS2 : Hid (RSt w ((wr.alloc (.cells #[.int .i64 pk, .int .i64 pn, .string pt] 26)).drewN nq)) := rst_dn (hS.out.alloc _) nq
          clear f0 f1 f2 z0 z1 z2 c0 c1 c2 hS
          generalize ((wr.alloc (.cells #[.int .i64 pk, .int .i64 pn, .string pt] 26)).drewN nq) = V at HS2 ⊢
          obtain ⟨f0, f1, f2, z0, z1, z2⟩ := HS2.out.2.all3
          have hAv : w.heap.size < V.heap.size := HS2.out.2.lt
          go_wp2
          have hB2 := below_sets3 HS2.out.1 w.heap.size (Nat.le_refl _) (.int .i64 0) (.int .i64 0) (.string ⟨#[]⟩)
          have hK := HS2.out.2.sets3 (.int .i64 0) (.int .i64 0) (.string ⟨#[]⟩)
          generalize World.setCell _ _ _ = WF at hK hB2 ⊢
          obtain ⟨g0, g1, g2, _, _, _⟩ := hK.all3
          exact bodyPost_ret (v := refused) (by simp [results, Tryd.results12, go_sem, g0, g1, g2, refused, pz, pv, noText]) rfl ⟨rfl, hB2⟩
      · have hne : (pk != tk) = true := by simpa using hkk
        clear hko hkk
        go_wp2
        go_big_quiet ((go_at_call 17; exact Calls.quiet_of_same (HT1.out _)))
        have HS2 : Hid (RSt w ((wr.alloc (.cells #[.int .i64 pk, .int .i64 pn, .string pt] 26)).drewN nq)) := rst_dn (hS.out.alloc _) nq
        clear f0 f1 f2 z0 z1 z2 c0 c1 c2 hS
        generalize ((wr.alloc (.cells #[.int .i64 pk, .int .i64 pn, .string pt] 26)).drewN nq) = V at HS2 ⊢
        obtain ⟨f0, f1, f2, z0, z1, z2⟩ := HS2.out.2.all3
        have hAv : w.heap.size < V.heap.size := HS2.out.2.lt
        go_wp2
        have hB2 := below_sets3 HS2.out.1 w.heap.size (Nat.le_refl _) (.int .i64 0) (.int .i64 0) (.string ⟨#[]⟩)
        have hK := HS2.out.2.sets3 (.int .i64 0) (.int .i64 0) (.string ⟨#[]⟩)
        generalize World.setCell _ _ _ = WF at hK hB2 ⊢
        obtain ⟨g0, g1, g2, _, _, _⟩ := hK.all3
        exact bodyPost_ret (v := refused) (by simp [results, Tryd.results12, go_sem, g0, g1, g2, refused, pz, pv, noText]) rfl ⟨rfl, hB2⟩
end Go.Proofs.YtijafedpaghhaaaDoor
