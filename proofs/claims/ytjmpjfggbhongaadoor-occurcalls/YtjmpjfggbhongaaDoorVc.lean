/-
  One walk for all binders, as mathematics (stage 16): an expression; how much the state grows.
-/
import Derived.Test.YtjmpjfggbhongaaDoorVb
namespace Go.Proofs.YtjmpjfggbhongaaDoor
open Go.RowKit Go.Shelf Go.Maps
set_option linter.unusedVariables false

theorem gg_var (b : Bool) : GG (if b then 2 else 1) (if b then 1 else 0) := by
  cases b
  · exact (by decide : 1 ≤ 1 ∧ 1 ≤ 5 ∧ (0 = 0 ↔ 1 = 1))
  · exact (by decide : 1 ≤ 2 ∧ 2 ≤ 5 ∧ (1 = 0 ↔ 2 = 1))
theorem isV_of {d : Nat} {t : Tr (d + 1)} {x : List UInt8} (hk : TrN.kind t = 1) : isV t x = (x == (TrN.name t).data.toList) := by simp [isV, hk]
theorem bd_set {s : WS} {j : Nat} (hj : j < s.bs.length) (M : BdR) (m : Nat) (i : Nat) : ({ s with bs := s.bs.set j M, met := m } : WS).bd i = if i = j then M else s.bd i := by
  unfold WS.bd
  by_cases h : i = j
  · subst h; simp [hj]
  · simp [Ne.symm h, h]
/-- The variable itself. -/
theorem chd_var {d : Nat} (t : Tr (d + 1)) : Chd pre1 (varS t) (fun x => if isV t x then 2 else 1) (fun x => if isV t x then 1 else 0) [] := by
  refine ⟨fun x => gg_var _, fun s hs hp => ?_⟩
  have hno : ∀ (s' : WS) (i : Nat) (x : List UInt8), isV t x = false → s'.bd i = s.bd i → Upd s s' i (if isV t x then 2 else 1) (if isV t x then 1 else 0) := fun s' i x hv he => by
    rw [hv]; exact ⟨fun _ => he, fun (h : 1 ≤ 0) => by omega⟩
  unfold varS
  by_cases hk : TrN.kind t = 1
  · rw [if_pos hk]
    unfold meetS
    cases hn : s.named (TrN.name t).data.toList with
    | none =>
      refine ⟨rfl, ⟨rfl, rfl, rfl, Nat.le_succ _, Nat.le_refl _, fun i hi => ⟨rfl, rfl, rfl, rfl⟩, fun i hi hx => rfl⟩, fun x i hx => hno _ i x ?_ rfl, ⟨[], by simp, rfl, fun i hi => by cases hi⟩⟩
      rw [isV_of hk]
      exact beq_eq_false_iff_ne.2 (fun e => by rw [e, hn] at hx; cases hx)
    | some i0 =>
      obtain ⟨n1, n2, n3, n4, n5, n6, n7, n8⟩ := hs.nm _ _ hn
      have hb := bd_set n1 (metB s (s.bd i0)) (s.met + 1)
      refine ⟨rfl, ⟨rfl, rfl, rfl, Nat.le_succ _, by simp, fun i hi => ?_, fun i hi hx => ?_⟩, fun x i hx => ?_, ⟨[], by simp, rfl, fun i hi => by cases hi⟩⟩
      · rw [hb i]
        by_cases e : i = i0
        · rw [if_pos e, e]; exact ⟨rfl, rfl, rfl, rfl⟩
        · rw [if_neg e]; exact ⟨rfl, rfl, rfl, rfl⟩
      · rw [hb i, if_neg (fun e => hx _ (by rw [e]; exact hn))]
      · by_cases e : i = i0
        · have hxe : x = (TrN.name t).data.toList := by rw [← (hs.nm x i hx).2.1, e, n2]
          have hv : isV t x = true := by rw [isV_of hk, hxe]; simp
          show Upd s _ i (if isV t x then 2 else 1) (if isV t x then 1 else 0)
          rw [hv]
          refine ⟨fun (h : 1 = 0) => by omega, fun _ => ?_⟩
          rw [hb i, if_pos e, e]
          refine ⟨?_, rfl, Nat.le_refl _, Nat.lt_succ_self _, Nat.le_refl _⟩
          show comb _ _ (if (s.bd i0).lam < s.lam then 4 else 2) = comb _ _ (wth (decide ((s.bd i0).lam < s.lam)) 2)
          by_cases hl : (s.bd i0).lam < s.lam
          · rw [if_pos hl, decide_eq_true hl]; rfl
          · rw [if_neg hl, decide_eq_false hl]; rfl
        · refine hno _ i x ?_ ((hb i).trans (if_neg e))
          rw [isV_of hk]
          exact beq_eq_false_iff_ne.2 (fun e9 => e (by rw [e9, hn] at hx; exact (Option.some.inj hx).symm))
  · rw [if_neg hk]
    refine ⟨rfl, Kept.refl s, fun x i hx => hno s i x ?_ rfl, ⟨[], by simp, rfl, fun i hi => by cases hi⟩⟩
    simp [isV, hk]
/-- All that an expression has, within its part. -/
def preB (l : List (Nat × Option Nat)) (m : Nat) : Prop := ∃ P, l = (m, none) :: P
def qB (a b : List (Nat × Option Nat)) : Prop := ∃ m mA P, a = (m, none) :: P ∧ b = (m, some mA) :: P
theorem either_one (o : Nat) : eitherM o 1 = o := by
  unfold eitherM bothM
  rw [if_pos (.inr rfl)]
  by_cases h : o = 1
  · rw [if_pos h, h]
  · rw [if_neg h, if_pos rfl]
theorem Wf.setAlts {s : WS} (h : Wf s) : Wf (setAlts s) := by
  unfold Go.Proofs.YtjmpjfggbhongaaDoor.setAlts
  cases hp : s.parts with
  | nil => exact h
  | cons q r =>
    refine ⟨?_, ?_, ?_, h.sc, h.nm⟩
    · have := h.srt; rw [hp] at this
      exact List.pairwise_cons.2 ⟨fun b hb => (List.pairwise_cons.1 this).1 b hb, (List.pairwise_cons.1 this).2⟩
    · intro p hq
      rcases List.mem_cons.1 hq with rfl | hq
      · exact h.mt q (by rw [hp]; exact List.mem_cons_self)
      · exact h.mt p (by rw [hp]; exact List.mem_cons_of_mem _ hq)
    · intro p hq
      have hz := h.zero
      rw [hp] at hz
      cases r with
      | nil => cases hq; exact hz q rfl
      | cons r1 r2 => exact hz p (by rw [List.getLast?_cons_cons] at hq ⊢; exact hq)
theorem chd_body {d : Nat} (t : Tr (d + 1)) {f : Tr d → WS → WS} {r c : Tr d → List UInt8 → Nat} {L : Tr d → List (ByteArray × Nat)} (h : ∀ e, Chd pre0 (f e) (r e) (c e) (L e)) :
    ChdQ preB qB (bodyS f t) (fun x => inN (fun e => r e x) t x) (fun x => (if isV t x then 1 else 0) + ((TrN.binds t).map (fun b => c b.2 x)).sum + ((TrN.args t).map (fun e => c e x)).sum + ((TrN.alts t).map (fun a => if (dl a.1.vars).contains x then 0 else c a.2 x)).sum)
      ((TrN.binds t).flatMap (fun b => L b.2) ++ (TrN.args t).flatMap L ++ (TrN.alts t).flatMap (fun a => a.1.vars.map (fun n => (n, r a.2 n.data.toList)) ++ L a.2)) := by
  have H1 := Chd.fold1 (fun e => f e) (fun e => r e) (fun e => c e) L (TrN.args t) (Chd.fold1 (fun (b : ByteArray × Tr d) => f b.2) (fun b => r b.2) (fun b => c b.2) (fun b => L b.2) (TrN.binds t) (chd_var t) (fun b _ => (h b.2).to1)) (fun e _ => (h e).to1)
  have H2 := Chd.fold2 (fun (a : AltH × Tr d) => inSc a.1.vars (f a.2)) (fun a x => if (dl a.1.vars).contains x then 1 else r a.2 x) (fun a x => if (dl a.1.vars).contains x then 0 else c a.2 x) (fun a => a.1.vars.map (fun n => (n, r a.2 n.data.toList)) ++ L a.2) (TrN.alts t) (chd_id pre2) (fun a _ => Chd.to2 (chd_inSc (p := pre0) (q := fun x y => y = x) a.1.vars (h a.2)))
  refine ⟨fun x => ?_, fun s hs hp => ?_⟩
  · have := gg_both (H1.1 x) (H2.1 x)
    have e : (TrN.alts t).foldl (fun o a => eitherM o (if (dl a.1.vars).contains x then 1 else r a.2 x)) 1 = (TrN.alts t).foldl (fun o a => if (dl a.1.vars).contains x then o else eitherM o (r a.2 x)) 1 := by
      congr 1; funext o a
      by_cases hc : (dl a.1.vars).contains x = true
      · rw [if_pos hc, if_pos hc, either_one]
      · rw [if_neg hc, if_neg hc]
    simp only [e, Nat.zero_add] at this
    exact this
  · obtain ⟨P, e0⟩ := hp
    obtain ⟨p1, k1, u1, a1⟩ := H1.2 s hs ⟨s.met, P, e0⟩
    obtain ⟨s4, hs4⟩ : ∃ s4, (TrN.args t).foldl (fun s e => f e s) ((TrN.binds t).foldl (fun s b => f b.2 s) (varS t s)) = s4 := ⟨_, rfl⟩
    have eb : bodyS f t s = (TrN.alts t).foldl (fun s a => inSc a.1.vars (f a.2) s) (setAlts s4) := by unfold bodyS; rw [hs4]
    rw [eb]
    simp only [hs4] at p1 k1 u1 a1
    have hw4 : Wf s4 := hs.step (by rw [p1]) k1 H1.1 u1
    have hsa : setAlts s4 = { s4 with parts := (s.met, some s4.met) :: P } := by unfold setAlts; rw [p1, e0]
    have hm1 := k1.met
    have hwA := hw4.setAlts
    rw [hsa] at hwA ⊢
    obtain ⟨sA, hsA⟩ : ∃ sA : WS, { s4 with parts := (s.met, some s4.met) :: P } = sA := ⟨_, rfl⟩
    have ea : sA.parts = (s.met, some s4.met) :: P := by rw [← hsA]
    have ebd : ∀ i, sA.bd i = s4.bd i := fun i => by rw [← hsA]; rfl
    have en : sA.named = s4.named := by rw [← hsA]
    have el : sA.lam = s4.lam := by rw [← hsA]
    have em : sA.met = s4.met := by rw [← hsA]
    have eq : sA.asked = s4.asked := by rw [← hsA]
    have es : sA.bs = s4.bs := by rw [← hsA]
    have kA : Kept s4 sA := by rw [← hsA]; exact ⟨rfl, rfl, rfl, Nat.le_refl _, Nat.le_refl _, fun i hi => ⟨rfl, rfl, rfl, rfl⟩, fun i hi hx => rfl⟩
    rw [hsA] at hwA ⊢
    obtain ⟨p2, k2, u2, a2⟩ := H2.2 sA hwA ⟨s.met, s4.met, P, ea, hm1, by omega⟩
    obtain ⟨s5, hs5⟩ : ∃ s5, (TrN.alts t).foldl (fun s a => inSc a.1.vars (f a.2) s) sA = s5 := ⟨_, rfl⟩
    rw [hs5]
    simp only [hs5] at p2 k2 u2 a2
    refine ⟨⟨s.met, s4.met, P, e0, p2.trans ea⟩, (k1.trans kA).trans k2, fun x i hx => ?_, ?_⟩
    · have hx4 : s4.named x = some i := by rw [k1.named]; exact hx
      obtain ⟨n1, n2, n3, n4, n5, n6, n7, n8⟩ := hs.nm x i hx
      obtain ⟨f1, f2, f3, f4⟩ := k1.fix i n1
      have uu1 := u1 x i hx
      have uu2 := u2 x i (by rw [en]; exact hx4)
      have g1 := H1.1 x
      have g2 := H2.1 x
      dsimp only at uu1 uu2 g1 g2
      obtain ⟨v1, v2⟩ := uu1
      obtain ⟨w1, w2⟩ := uu2
      have e : (TrN.alts t).foldl (fun o a => eitherM o (if (dl a.1.vars).contains x then 1 else r a.2 x)) 1 = (TrN.alts t).foldl (fun o a => if (dl a.1.vars).contains x then o else eitherM o (r a.2 x)) 1 := by
        congr 1; funext o a
        by_cases hc : (dl a.1.vars).contains x = true
        · rw [if_pos hc, if_pos hc, either_one]
        · rw [if_neg hc, if_neg hc]
      simp only [e, Nat.zero_add] at w1 w2 g2
      dsimp only
      show Upd s s5 i (bothM _ _) _
      generalize (TrN.alts t).foldl (fun o a => if (dl a.1.vars).contains x then o else eitherM o (r a.2 x)) 1 = r2 at w1 w2 g2 ⊢
      generalize ((TrN.alts t).map (fun a => if (dl a.1.vars).contains x then 0 else c a.2 x)).sum = c2 at w1 w2 g2 ⊢
      generalize (TrN.args t).foldl (fun o a => bothM o (r a x)) ((TrN.binds t).foldl (fun o b => bothM o (r b.2 x)) (if isV t x then 2 else 1)) = r1 at v1 v2 g1 ⊢
      generalize (if isV t x then 1 else 0) + ((TrN.binds t).map (fun b => c b.2 x)).sum + ((TrN.args t).map (fun e => c e x)).sum = c1 at v1 v2 g1 ⊢
      rw [ebd] at w1
      rw [ebd, ea, el, em] at w2
      have hm2 := k2.met
      refine ⟨fun hc => (w1 (by omega)).trans (v1 (by omega)), fun hc => ?_⟩
      rcases Nat.eq_zero_or_pos c1 with h1 | h1
      · have hr1 := g1.one h1
        have e1 := v1 h1
        obtain ⟨y1, y2, y3, y4, y5⟩ := w2 (by omega)
        rw [e1, k1.lam] at y1
        rw [e1] at y2
        refine ⟨?_, by omega, by omega, y4, by omega⟩
        rw [y1, hr1, e0]
        show comb _ _ _ = comb _ _ (wth _ r2)
        rcases n7 with n7 | n7
        · rw [n7.1, comb_one (wth_ok g2.rg), comb_one (wth_ok g2.rg)]
        · rw [prt_miss n7, prt_miss n7]
      · obtain ⟨z1, z2, z3, z4, z5⟩ := v2 h1
        rcases Nat.eq_zero_or_pos c2 with h2 | h2
        · have hr2 := g2.one h2
          rw [w1 h2]
          refine ⟨?_, by omega, z3, by omega, by omega⟩
          rw [z1, hr2]
          congr 2
          have := g1.ne h1
          simp only [bothM, if_neg this, if_true]
        · obtain ⟨y1, y2, y3, y4, y5⟩ := w2 h2
          rw [prt_some z3, decide_eq_false (show ¬ s4.met ≤ _ by omega), z1, f2, k1.lam, both_seq ⟨n5, n6⟩ g1.rg g2.rg (g1.ne h1) (g2.ne h2)] at y1
          exact ⟨y1, by omega, by omega, y4, by omega⟩
    · have a1' : AskP s sA ([] ++ (TrN.binds t).flatMap (fun b => L b.2) ++ (TrN.args t).flatMap L) := by
        obtain ⟨l, q1, q2, q3⟩ := a1
        refine ⟨l, by rw [eq, q1], ?_, fun i hi => by rw [es]; exact q3 i hi⟩
        have ev : viewS sA = viewS s4 := by funext i; simp [viewS, ebd]
        rw [ev]; exact q2
      have := AskP.trans hs (k1.trans kA) k2 a1' a2
      simpa using this
theorem within_two {r : Nat} (h : 1 ≤ r ∧ r ≤ 5) : withinM (withinM r) = withinM r := by
  rcases five h.1 h.2 with rfl | rfl | rfl | rfl | rfl <;> rfl
/-- A part is gone into, and left. -/
theorem chd_part (k : Int) {g : WS → WS} {r c : List UInt8 → Nat} {L : List (ByteArray × Nat)} (h : ChdQ preB qB g r c L) : Chd pre0 (fun s => popS k (g (pushS k s))) (fun x => if k = 5 then withinM (r x) else r x) c L := by
  refine ⟨fun x => ?_, fun s hs hp => ?_⟩
  · show GG (if k = 5 then withinM (r x) else r x) (c x)
    by_cases hk : k = 5
    · rw [if_pos hk]; exact gg_within (h.1 x)
    · rw [if_neg hk]; exact h.1 x
  · obtain ⟨s1, hs1⟩ : ∃ s1, pushS k s = s1 := ⟨_, rfl⟩
    have e1 : s1.parts = (s.met, none) :: s.parts := by rw [← hs1]; rfl
    have e2 : s1.lam = if k = 5 then s.lam + 1 else s.lam := by rw [← hs1]; rfl
    have e3 : s1.met = s.met := by rw [← hs1]; rfl
    have e4 : s1.bs = s.bs := by rw [← hs1]; rfl
    have e5 : s1.named = s.named := by rw [← hs1]; rfl
    have e6 : s1.scope = s.scope := by rw [← hs1]; rfl
    have e7 : s1.asked = s.asked := by rw [← hs1]; rfl
    have ebd : ∀ i, s1.bd i = s.bd i := fun i => by unfold WS.bd; rw [e4]
    have hlam : s.lam ≤ s1.lam := by rw [e2]; split <;> omega
    have hw : Wf s1 := by
      refine ⟨?_, ?_, ?_, by rw [e6, e4]; exact hs.sc, fun x i hx => ?_⟩
      · rw [e1]; exact List.pairwise_cons.2 ⟨fun q hq => hs.mt q hq, hs.srt⟩
      · rw [e1, e3]; intro q hq
        rcases List.mem_cons.1 hq with rfl | hq
        · exact Nat.le_refl _
        · exact hs.mt q hq
      · rw [e1]; intro q hq
        cases hP : s.parts with
        | nil => rw [hP] at hq; cases hq; exact hp hP
        | cons a b => rw [hP, List.getLast?_cons_cons] at hq; exact hs.zero q (by rw [hP]; exact hq)
      · rw [e5] at hx
        obtain ⟨n1, n2, n3, n4, n5, n6, n7, n8⟩ := hs.nm x i hx
        rw [ebd, e4, e6, e3]
        exact ⟨n1, n2, n3, by omega, n5, n6, n7, n8⟩
    obtain ⟨⟨m, mA, P, q1, q2⟩, k1, u1, a1⟩ := h.2 s1 hw ⟨s.parts, by rw [e1, e3]⟩
    show (popS k (g (pushS k s))).parts = s.parts ∧ Kept s (popS k (g (pushS k s))) ∧ (∀ x i, s.named x = some i → Upd s (popS k (g (pushS k s))) i (if k = 5 then withinM (r x) else r x) (c x)) ∧ AskP s (popS k (g (pushS k s))) L
    rw [hs1]
    obtain ⟨s5, hs5⟩ : ∃ s5, g s1 = s5 := ⟨_, rfl⟩
    rw [hs5] at q2 k1 u1 a1 ⊢
    have hP : P = s.parts := by rw [e1] at q1; cases q1; rfl
    have h5 : ∀ i, (popS k s5).bd i = s5.bd i := fun i => rfl
    refine ⟨by show s5.parts.tail = _; rw [q2, hP]; rfl, ⟨?_, k1.named.trans e5, k1.scope.trans e6, by have := k1.met; rw [e3] at this; exact this, by have := k1.len; rw [e4] at this; exact this, fun i hi => ?_, fun i hi hx => ?_⟩, fun x i hx => ?_, ?_⟩
    · show (if k = 5 then s5.lam - 1 else s5.lam) = s.lam
      rw [k1.lam, e2]; split <;> omega
    · have := k1.fix i (by rw [e4]; exact hi)
      rw [ebd] at this; exact this
    · rw [h5, k1.idle i (by rw [e4]; exact hi) (by rw [e5]; exact hx), ebd]
    · obtain ⟨n1, n2, n3, n4, n5, n6, n7, n8⟩ := hs.nm x i hx
      obtain ⟨v1, v2⟩ := u1 x i (by rw [e5]; exact hx)
      rw [ebd] at v1
      rw [ebd, e1, e3] at v2
      refine ⟨v1, fun hc => ?_⟩
      obtain ⟨y1, y2, y3, y4, y5⟩ := v2 hc
      refine ⟨?_, y2, y3, y4, y5⟩
      rw [h5, y1]
      have hg := (h.1 x).rg
      have ew : wth (decide ((s.bd i).lam < s1.lam)) (r x) = wth (decide ((s.bd i).lam < s.lam)) (if k = 5 then withinM (r x) else r x) := by
        rw [e2]
        by_cases hk : k = 5
        · rw [if_pos hk, if_pos hk, decide_eq_true (by omega)]
          cases decide ((s.bd i).lam < s.lam)
          · rfl
          · exact (within_two hg).symm
        · rw [if_neg hk, if_neg hk]
      rw [ew]
      have hg2 : 1 ≤ (if k = 5 then withinM (r x) else r x) ∧ (if k = 5 then withinM (r x) else r x) ≤ 5 := by
        by_cases hk : k = 5
        · rw [if_pos hk]; exact (gg_within (h.1 x)).rg
        · rw [if_neg hk]; exact hg
      rcases n7 with n7 | n7
      · rw [n7.1, comb_one (wth_ok hg2), comb_one (wth_ok hg2)]
      · rw [prt_miss n7]
    · obtain ⟨l, b1, b2, b3⟩ := a1
      exact ⟨l, by rw [← e7]; exact b1, b2, fun i hi => by have := b3 i hi; rw [e4] at this; exact this⟩
/-- Each binder's occurrence, in order. -/
def allOc : (d : Nat) → Tr d → List (ByteArray × Nat)
  | 0, t => nomatch t
  | d + 1, t => (bndM t).map (fun n => (n, inN (fun e => ofM d e n.data.toList) t n.data.toList)) ++ ((TrN.binds t).flatMap (fun b => allOc d b.2) ++ (TrN.args t).flatMap (allOc d) ++ (TrN.alts t).flatMap (fun a => a.1.vars.map (fun n => (n, ofM d a.2 n.data.toList)) ++ allOc d a.2))
/-- What the walk does with an expression. -/
theorem exprS_chd : ∀ (d : Nat) (t : Tr d), Chd pre0 (exprS d t) (ofM d t) (cntN d t) (allOc d t)
  | 0, t => nomatch t
  | d + 1, t => by
    have hB := chd_body t (f := exprS d) (r := ofM d) (c := cntN d) (L := allOc d) (fun e => exprS_chd d e)
    have hS := chd_inSc (bndM t) hB
    have hP := chd_part (TrN.kind t) hS
    refine hP.congr (fun _ => rfl) (fun x => ?_) (fun x => ?_) rfl
    · show (if hidM t x then 1 else if TrN.kind t = 5 then withinM _ else _) = (if TrN.kind t = 5 then withinM (if hidM t x then 1 else _) else if hidM t x then 1 else _)
      by_cases hh : hidM t x = true
      · rw [if_pos hh, if_pos hh]; split <;> rfl
      · rw [if_neg hh, if_neg hh]
    · rfl
end Go.Proofs.YtjmpjfggbhongaaDoor
