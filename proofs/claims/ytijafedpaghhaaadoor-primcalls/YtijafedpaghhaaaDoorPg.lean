/-
  Package prim: Apply's loop, by contracts.
-/
import Derived.Test.YtijafedpaghhaaaDoorPf
namespace Go.Proofs.YtijafedpaghhaaaDoor
open Go.RowKit Go.Shelf Go.Maps
set_option linter.unusedVariables false

/-- What stands while the arguments are gone through. -/
def ASt (w W : World) (P : Nat) (tk : Int) (f : Nat) : Prop := Below w.heap.size w W ∧ Blk W w.heap.size #[.int .i64 0, .int .i64 0, .string ⟨#[]⟩] 26 ∧ Blk W P #[.int .i64 tk, .func (.func f) #[] #[]] 49
theorem ASt.below {w W W' : World} {P : Nat} {tk : Int} {f : Nat} (h : ASt w W P tk f) (hb : Below W.heap.size W W') : ASt w W' P tk f := ⟨h.1.trans (hb.mono h.1.size), h.2.1.below hb, h.2.2.below hb⟩

theorem ASt.drewB {w W W' : World} {P : Nat} {tk : Int} {f : Nat} (h : ASt w W P tk f) (hb : Below W.drew.heap.size W.drew W') : Hid (ASt w W' P tk f) := ASt.below (W := W.drew) ⟨h.1.drew, h.2.1, h.2.2⟩ hb
set_option maxRecDepth 100000 in
set_option maxHeartbeats 4000000 in
theorem apply_bad (s : ByteArray) (hs : s.size ≤ maxLen) (o : Option Addr) (cap : Nat) (ps : List PT) (w : World) (tk : Int) (f : Nat) (hfind : tabL.find? (fun p => p.1 == s.data.toList) = some (s.data.toList, entV tk f)) (har : (ps.length : Int) = arM s.data.toList) (hl2 : ps.length ≤ 2) (hps : PsIn w w.heap.size o ps)
    (j : Nat) (hj : j < ps.length) (hok : ∀ i (h : i < ps.length), i < j → okP tk ps[i] = true) (hbad : okP tk ps[j] = false) :
    Calls Tryd.prog 8 #[.string s, .slice o ps.length cap] w fun e w' => e = .returned refused ∧ Below w.heap.size w w' := by
  obtain ⟨g, off, rfl, hg, hA⟩ := hps.at j hj
  have HAt : Hid (∀ X : World, Below w.heap.size w X → PsAt X ps g off) := fun X hX => hA.below hg hX
  have HOk : Hid (∀ i (h : i < ps.length), i < j → okP tk ps[i] = true) := hok
  have HBad : Hid (∀ h : j < ps.length, okP tk ps[j] = false) := fun _ => hbad
  have HJ : Hid (j < ps.length) := hj
  have HG : Hid (g < w.heap.size) := hg
  clear hok hbad hj hg hA
  have HL : Hid (∀ (W : World) (b : Nat), MapIs W b 15 tabL → (Instr.lookup 46 (.map (some b)) (.string s) true).run Tryd.prog W = .ok (.tuple #[.agg #[.int .i64 tk, .func (.func f) #[] #[]], .bool true]) W) := look_tab s hs tk f hfind
  have HA : Hid (∀ W : World, Calls Tryd.prog 29 #[.string s] W fun e w' => e = .returned (.int .i64 (ps.length : Int)) ∧ w' = W) := fun W => by rw [har, ← toL]; exact arity_c s W
  obtain ⟨n, hn⟩ : ∃ n, ps.length = n := ⟨_, rfl⟩
  have HN : Hid (ps.length = n) := hn
  rw [hn] at HA ⊢
  have hn2 : (n : Int) ≤ 2 := by rw [← hn]; omega
  clear hs hfind har hn hps hl2
  go_enter Tryd.func8, Tryd.ntmps8
  go_wp2_with (go_at_call 25; fail)
  refine (table_c _).mono ?_
  rintro e w1 ⟨rfl, hm, hb⟩
  have HK := (Blk.new w _ _).below hb
  have HB : Hid (Below w.heap.size w w1) := (below1 w _).trans (hb.mono (by simp))
  obtain ⟨f0, f1, f2, z0, z1, z2⟩ := HK.all3
  have HKh : Hid (Blk w1 w.heap.size #[.int .i64 0, .int .i64 0, .string ⟨#[]⟩] 26) := HK
  have hl := HK.lt
  have hrun := HL.out w1 (w.heap.size + 1) (by simpa using hm)
  clear HK hb hm HL
  go_wp2_with (go_at_call 29; refine (HA.out _).mono ?_; rintro e w' ⟨rfl, rfl⟩)
  have HS : Hid (ASt w (w1.alloc (.cells #[.int .i64 tk, .func (.func f) #[] #[]] 49)) w1.heap.size tk f) := ⟨HB.out.alloc HB.out.size _, HKh.out.alloc _, Blk.new _ _ _⟩
  have HPs : Hid (w.heap.size < w1.heap.size) := hl
  clear HB HKh hrun f0 f1 f2 z0 z1 z2 hl HA
  go_loopw [28] (fun i wr => ∃ k : Nat, k ≤ j ∧ i = .int .i64 k ∧ Hid (ASt w wr w1.heap.size tk f)) (fun i _ => n - (intOf i).toNat)
  case atStart => exact ⟨0, Nat.zero_le _, rfl, HS⟩
  case round =>
    obtain ⟨k, hk, rfl, hS⟩ := hrel
    have hkf : k < ps.length := Nat.lt_of_le_of_lt hk HJ.out
    have hkn : k < n := by rw [← HN.out]; exact hkf
    obtain ⟨c0, c1, c2⟩ := HAt.out wr hS.out.1 k hkf
    obtain ⟨f0, f1, f2, z0, z1, z2⟩ := hS.out.2.1.all3
    obtain ⟨p0, p1, y0, y1⟩ := hS.out.2.2.all2
    have hgr : g < wr.heap.size := Nat.lt_of_lt_of_le HG.out hS.out.1.size
    have hPr : w1.heap.size < wr.heap.size := hS.out.2.2.lt
    have hAr : w.heap.size < wr.heap.size := hS.out.2.1.lt
    obtain ⟨⟨pk, pn, pt⟩, hp⟩ : ∃ p : PT, ps[k] = p := ⟨_, rfl⟩
    rw [hp] at c0 c1 c2
    simp only at c0 c1 c2
    by_cases hkj : k < j
    · have hko : okP tk ⟨pk, pn, pt⟩ = true := by rw [← hp]; exact HOk.out k hkf hkj
      have hkk : pk = tk := by simp [okP] at hko; exact hko.1
      have hmy : mayM pk pn pt = true := by simp [okP] at hko; exact hko.2
      subst hkk
      have HM : Hid (∀ W : World, Calls Tryd.prog 30 #[.agg #[.int .i64 pk, .int .i64 pn, .string pt]] W fun e w' => e = .returned (.bool true) ∧ Below W.heap.size W w') := fun W => by have := mayBe_c pk pn pt W; rw [hmy] at this; exact this
      clear hko hmy hp hk
      go_wp2_with (go_at_call 30; fail)
      refine (HM.out _).mono ?_
      rintro e w2 ⟨rfl, hb⟩
      have HS2 : Hid (ASt w w2 w1.heap.size pk f) := (hS.out.below (below1 wr _)).below hb
      clear hb f0 f1 f2 z0 z1 z2 p0 p1 y0 y1 c0 c1 c2 hS HM
      go_wp2
      go_roundw
      case rel => exact ⟨k + 1, hkj, by go_num, HS2⟩
      case measure => simp [intOf]; omega
    · have hko : okP tk ⟨pk, pn, pt⟩ = false := by
        have hkj2 : k = j := by omega
        subst hkj2
        rw [← hp]; exact HBad.out hkf
      by_cases hkk : pk = tk
      · have hmy : mayM pk pn pt = false := by simp [okP, hkk] at hko; rw [hkk]; exact hko
        subst hkk
        have HM : Hid (∀ W : World, Calls Tryd.prog 30 #[.agg #[.int .i64 pk, .int .i64 pn, .string pt]] W fun e w' => e = .returned (.bool false) ∧ Below W.heap.size W w') := fun W => by have := mayBe_c pk pn pt W; rw [hmy] at this; exact this
        clear hko hmy hp hk hkj
        go_wp2_with (go_at_call 30; fail)
        refine (HM.out _).mono ?_
        rintro e w2 ⟨rfl, hb⟩
        have HS2 : Hid (ASt w w2 w1.heap.size pk f) := (hS.out.below (below1 wr _)).below hb
        clear hb f0 f1 f2 z0 z1 z2 p0 p1 y0 y1 c0 c1 c2 hS HM
        obtain ⟨f0, f1, f2, z0, z1, z2⟩ := HS2.out.2.1.all3
        have hAr2 : w.heap.size < w2.heap.size := HS2.out.2.1.lt
        go_wp2
        have hB2 := below_sets3 HS2.out.1 w.heap.size (Nat.le_refl _) (.int .i64 0) (.int .i64 0) (.string ⟨#[]⟩)
        have hK := HS2.out.2.1.sets3 (.int .i64 0) (.int .i64 0) (.string ⟨#[]⟩)
        generalize World.setCell _ _ _ = WF at hK hB2 ⊢
        obtain ⟨g0, g1, g2, _, _, _⟩ := hK.all3
        exact bodyPost_ret (v := refused) (by simp [results, Tryd.results8, go_sem, g0, g1, g2, refused, pz, pv, noText]) rfl ⟨rfl, hB2⟩
      · have hkk2 : (pk != tk) = true := by simpa using hkk
        clear hko hp hk hkj hkk
        go_wp2
        have hB1 := (below_sets3 hS.out.1 w.heap.size (Nat.le_refl _) (.int .i64 0) (.int .i64 0) (.string ⟨#[]⟩)).alloc (below_sets3 hS.out.1 w.heap.size (Nat.le_refl _) (.int .i64 0) (.int .i64 0) (.string ⟨#[]⟩)).size (.cells #[.int .i64 pk, .int .i64 pn, .string pt] 26)
        have hK := (hS.out.2.1.sets3 (.int .i64 0) (.int .i64 0) (.string ⟨#[]⟩)).alloc (.cells #[.int .i64 pk, .int .i64 pn, .string pt] 26)
        generalize World.alloc _ _ = WF at hK hB1 ⊢
        obtain ⟨g0, g1, g2, _, _, _⟩ := hK.all3
        exact bodyPost_ret (v := refused) (by simp [results, Tryd.results8, go_sem, g0, g1, g2, refused, pz, pv, noText]) rfl ⟨rfl, hB1⟩

set_option maxRecDepth 100000 in
set_option maxHeartbeats 4000000 in
theorem apply_yes (s : ByteArray) (hs : s.size ≤ maxLen) (o : Option Addr) (cap : Nat) (ps : List PT) (w : World) (tk : Int) (f : Nat) (gm : Int → Int → Value) (hfn : FnOK f gm) (hfind : tabL.find? (fun p => p.1 == s.data.toList) = some (s.data.toList, entV tk f)) (har : (ps.length : Int) = arM s.data.toList) (hl2 : ps.length ≤ 2) (hl1 : 0 < ps.length) (hps : PsIn w w.heap.size o ps)
    (hwf : ∀ p ∈ ps, Lit.wf (.int .i64 p.n) = true) (hok : ∀ i (h : i < ps.length), okP tk ps[i] = true) (kv nv : Int) (tv : ByteArray) (hgm : gm ps[0].n ps[ps.length - 1].n = pv kv nv tv) :
    Calls Tryd.prog 8 #[.string s, .slice o ps.length cap] w fun e w' => e = .returned (.tuple #[pv kv nv tv, .int .i64 0]) ∧ Below w.heap.size w w' := by
  obtain ⟨g, off, rfl, hg, hA⟩ := hps.at 0 hl1
  have HAt : Hid (∀ X : World, Below w.heap.size w X → PsAt X ps g off) := fun X hX => hA.below hg hX
  have HOk : Hid (∀ i (h : i < ps.length), okP tk ps[i] = true) := hok
  have HG : Hid (g < w.heap.size) := hg
  obtain ⟨q0, hq0⟩ : ∃ q, ps[0] = q := ⟨_, rfl⟩
  obtain ⟨q1, hq1⟩ : ∃ q, ps[ps.length - 1] = q := ⟨_, rfl⟩
  have HQ : Hid (∀ X : World, Below w.heap.size w X → X.cell? ⟨g, off + 1, none⟩ = some (.int .i64 q0.n) ∧ X.cell? ⟨g, off + (ps.length - 1) * 3 + 1, none⟩ = some (.int .i64 q1.n)) := fun X hX => by
    have h0 := (hA.below hg hX 0 hl1).2.1
    have h1 := (hA.below hg hX (ps.length - 1) (by omega)).2.1
    rw [hq0] at h0; rw [hq1] at h1
    exact ⟨by simpa using h0, h1⟩
  have HF : Hid (∀ W : World, Calls Tryd.prog f #[.int .i64 q0.n, .int .i64 q1.n] W fun e w' => e = .returned (pv kv nv tv) ∧ Below W.heap.size W w') := fun W => by
    have h0 := hwf ps[0] (List.getElem_mem _)
    have h1 := hwf ps[ps.length - 1] (List.getElem_mem _)
    have := hfn.2 _ _ W h0 h1
    rw [hgm, hq0, hq1] at this
    exact this
  have hE : ∀ (args : Array Value) (w : World), (callFunc f args).run Tryd.prog w = .ok (.enter f args) w := hfn.1
  have hl1i : 0 < ps.length := hl1
  clear hgm hfn hwf hq0 hq1 hok hg hA hl1
  have HL : Hid (∀ (W : World) (b : Nat), MapIs W b 15 tabL → (Instr.lookup 46 (.map (some b)) (.string s) true).run Tryd.prog W = .ok (.tuple #[.agg #[.int .i64 tk, .func (.func f) #[] #[]], .bool true]) W) := look_tab s hs tk f hfind
  have HA : Hid (∀ W : World, Calls Tryd.prog 29 #[.string s] W fun e w' => e = .returned (.int .i64 (ps.length : Int)) ∧ w' = W) := fun W => by rw [har, ← toL]; exact arity_c s W
  obtain ⟨n, hn⟩ : ∃ n, ps.length = n := ⟨_, rfl⟩
  have HN : Hid (ps.length = n) := hn
  rw [hn] at HA ⊢
  have hn2 : (n : Int) ≤ 2 := by rw [← hn]; omega
  clear hs hfind har hn hps hl2
  go_enter Tryd.func8, Tryd.ntmps8
  go_wp2_with (go_at_call 25; fail)
  refine (table_c _).mono ?_
  rintro e w1 ⟨rfl, hm, hb⟩
  have HK := (Blk.new w _ _).below hb
  have HB : Hid (Below w.heap.size w w1) := (below1 w _).trans (hb.mono (by simp))
  obtain ⟨f0, f1, f2, z0, z1, z2⟩ := HK.all3
  have HKh : Hid (Blk w1 w.heap.size #[.int .i64 0, .int .i64 0, .string ⟨#[]⟩] 26) := HK
  have hl := HK.lt
  have hrun := HL.out w1 (w.heap.size + 1) (by simpa using hm)
  clear HK hb hm HL
  go_wp2_with (go_at_call 29; refine (HA.out _).mono ?_; rintro e w' ⟨rfl, rfl⟩)
  have HS : Hid (ASt w (w1.alloc (.cells #[.int .i64 tk, .func (.func f) #[] #[]] 49)) w1.heap.size tk f) := ⟨HB.out.alloc HB.out.size _, HKh.out.alloc _, Blk.new _ _ _⟩
  have HPs : Hid (w.heap.size < w1.heap.size) := hl
  clear HB HKh hrun f0 f1 f2 z0 z1 z2 hl HA
  have hn0 : 0 < n := by rw [← HN.out]; exact hl1i
  go_loopw [28] (fun i wr => ∃ k : Nat, k ≤ n ∧ i = .int .i64 k ∧ Hid (ASt w wr w1.heap.size tk f)) (fun i _ => n - (intOf i).toNat)
  case atStart => exact ⟨0, Nat.zero_le _, rfl, HS⟩
  case round =>
    obtain ⟨k, hk, rfl, hS⟩ := hrel
    obtain ⟨f0, f1, f2, z0, z1, z2⟩ := hS.out.2.1.all3
    obtain ⟨p0, p1, y0, y1⟩ := hS.out.2.2.all2
    have hgr : g < wr.heap.size := Nat.lt_of_lt_of_le HG.out hS.out.1.size
    have hPr : w1.heap.size < wr.heap.size := hS.out.2.2.lt
    have hAr : w.heap.size < wr.heap.size := hS.out.2.1.lt
    by_cases hkn : k < n
    · have hkf : k < ps.length := by rw [HN.out]; exact hkn
      obtain ⟨c0, c1, c2⟩ := HAt.out wr hS.out.1 k hkf
      have hko := HOk.out k hkf
      obtain ⟨⟨pk, pn, pt⟩, hp⟩ : ∃ p : PT, ps[k] = p := ⟨_, rfl⟩
      rw [hp] at c0 c1 c2 hko
      simp only at c0 c1 c2
      have hkk : pk = tk := by simp [okP] at hko; exact hko.1
      have hmy : mayM pk pn pt = true := by simp [okP] at hko; exact hko.2
      subst hkk
      have HM : Hid (∀ W : World, Calls Tryd.prog 30 #[.agg #[.int .i64 pk, .int .i64 pn, .string pt]] W fun e w' => e = .returned (.bool true) ∧ Below W.heap.size W w') := fun W => by have := mayBe_c pk pn pt W; rw [hmy] at this; exact this
      clear hko hmy hp hk hl1i hn0
      go_wp2_with (go_at_call 30; fail)
      refine (HM.out _).mono ?_
      rintro e w2 ⟨rfl, hb⟩
      have HS2 : Hid (ASt w w2 w1.heap.size pk f) := (hS.out.below (below1 wr _)).below hb
      clear hb f0 f1 f2 z0 z1 z2 p0 p1 y0 y1 c0 c1 c2 hS HM
      go_wp2
      go_roundw
      case rel => exact ⟨k + 1, hkn, by go_num, HS2⟩
      case measure => simp [intOf]; omega
    · obtain rfl : k = n := by omega
      obtain ⟨c0, c1⟩ := HQ.out wr hS.out.1
      rw [HN.out] at c1
      generalize q0.n = a at *
      generalize q1.n = b at *
      clear hl1i hkn hk HQ HAt HOk
      have hk12 : k = 1 ∨ k = 2 := by omega
      clear hn0 hn2 HN
      rcases hk12 with rfl | rfl
      · simp only [Nat.sub_self, Nat.zero_mul, Nat.add_zero] at c1
        obtain rfl : a = b := by rw [c0] at c1; simpa using c1
        clear c1
        go_wp2
        go_region_with ((go_at_fn f; (with_reducible refine (HF.out _).mono ?_); rintro e w2 ⟨rfl, hb⟩; have HS2 : Hid (ASt w w2 w1.heap.size tk f) := (by with_reducible exact hS.out.drewB hb); obtain ⟨f0, f1, f2, z0, z1, z2⟩ := HS2.out.2.1.all3; have hAr2 : w.heap.size < w2.heap.size := HS2.out.2.1.lt; clear hb; simp only [pv]))
        all_goals
          go_wp2
          have hB2 := below_sets3 HS2.out.1 w.heap.size (Nat.le_refl _) (.int .i64 kv) (.int .i64 nv) (.string tv)
          have hK := HS2.out.2.1.sets3 (.int .i64 kv) (.int .i64 nv) (.string tv)
          generalize World.setCell _ _ _ = WF at hK hB2 ⊢
          obtain ⟨g0, g1, g2, _, _, _⟩ := hK.all3
          exact bodyPost_ret (v := .tuple #[pv kv nv tv, .int .i64 0]) (by simp [results, Tryd.results8, go_sem, g0, g1, g2, pv]) rfl ⟨rfl, hB2⟩
      · simp only [Nat.one_mul, show 2 - 1 = 1 from rfl] at c1
        go_wp2
        go_region_with ((go_at_fn f; (with_reducible refine (HF.out _).mono ?_); rintro e w2 ⟨rfl, hb⟩; have HS2 : Hid (ASt w w2 w1.heap.size tk f) := (by with_reducible exact hS.out.drewB hb); obtain ⟨f0, f1, f2, z0, z1, z2⟩ := HS2.out.2.1.all3; have hAr2 : w.heap.size < w2.heap.size := HS2.out.2.1.lt; clear hb; simp only [pv]))
        all_goals
          go_wp2
          have hB2 := below_sets3 HS2.out.1 w.heap.size (Nat.le_refl _) (.int .i64 kv) (.int .i64 nv) (.string tv)
          have hK := HS2.out.2.1.sets3 (.int .i64 kv) (.int .i64 nv) (.string tv)
          generalize World.setCell _ _ _ = WF at hK hB2 ⊢
          obtain ⟨g0, g1, g2, _, _, _⟩ := hK.all3
          exact bodyPost_ret (v := .tuple #[pv kv nv tv, .int .i64 0]) (by simp [results, Tryd.results8, go_sem, g0, g1, g2, pv]) rfl ⟨rfl, hB2⟩
end Go.Proofs.YtijafedpaghhaaaDoor
