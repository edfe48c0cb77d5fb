/-
  A walk in memory (stage 16): alternatives, by a contract.
-/
import Derived.Test.YtjmpjfggbhongaaDoorUi
import Derived.Test.YtjmpjfggbhongaaDoorUj
import Derived.Test.YtjmpjfggbhongaaDoorUk
namespace Go.Proofs.YtjmpjfggbhongaaDoor
open Go.RowKit Go.Shelf Go.Maps
set_option linter.unusedVariables false

theorem set_last2 {a u v : Value} : ∀ X : List Value, (X ++ [a, u]).set (X.length + 1) v = X ++ [a, v]
  | [] => rfl
  | x :: X => by
    show x :: ((X ++ [a, u]).set (X.length + 1) v) = _
    rw [set_last2 X]; rfl
theorem owns_blk {W : World} {b e z n g cap : Nat} {xs : List Value} (h : W.ownsRow b e z (.slice (some ⟨g, 0, none⟩) n cap) n xs) : ∃ cur, Blk W g cur e := by
  rcases h with ⟨hl, ⟨h1, h2⟩ | ⟨g', cp, cur, h1, h2, h3, h4, h5, h6, h7⟩⟩
  · cases h1
  · cases h1; exact ⟨cur, h3⟩
/-- The last number of a row of pairs is set. -/
theorem owns_set2 {W : World} {b e n g cap : Nat} {X : List Value} {a u v : Value} (h : W.ownsRow b e 2 (.slice (some ⟨g, 0, none⟩) n cap) n (X ++ [a, u])) : (W.setCell ⟨g, X.length + 1, none⟩ v).ownsRow b e 2 (.slice (some ⟨g, 0, none⟩) n cap) n (X ++ [a, v]) := by
  rcases h with ⟨hl, ⟨h1, h2⟩ | ⟨g', cp, cur, h1, h2, h3, h4, h5, h6, h7⟩⟩
  · cases h1
  · cases h1
    refine ⟨by simpa using hl, .inr ⟨g, cap, cur.setIfInBounds (X.length + 1) v, rfl, h2, ?_, h4, h5, by simpa using h6, ?_⟩⟩
    · simp [World.setCell, Array.getElem?_modify, h3]
    · have e : (cur.setIfInBounds (X.length + 1) v).toList = cur.toList.set (X.length + 1) v := by simp
      rw [e, List.take_set, h7, set_last2]
theorem wf_push {s : WS} (k : Int) (hs : Wf s) (hp : s.parts = [] → s.met = 0) : Wf (pushS k s) := by
  have hlam : s.lam ≤ (pushS k s).lam := by show s.lam ≤ (if k = 5 then s.lam + 1 else s.lam); split <;> omega
  refine ⟨List.pairwise_cons.2 ⟨fun q hq => hs.mt q hq, hs.srt⟩, fun q hq => ?_, fun q hq => ?_, hs.sc, fun x i hx => ?_⟩
  · rcases List.mem_cons.1 hq with rfl | hq
    · exact Nat.le_refl _
    · exact hs.mt q hq
  · have hq' : ((s.met, (none : Option Nat)) :: s.parts).getLast? = some q := hq
    cases hP : s.parts with
    | nil => rw [hP] at hq'; cases hq'; exact hp hP
    | cons a b => rw [hP, List.getLast?_cons_cons] at hq'; exact hs.zero q (by rw [hP]; exact hq')
  · obtain ⟨n1, n2, n3, n4, n5, n6, n7, n8⟩ := hs.nm x i hx
    exact ⟨n1, n2, n3, Nat.le_trans n4 hlam, n5, n6, n7, n8⟩
/-- What expr does with an expression of a depth. -/
def WkOK (d : Nat) : Prop := ∀ (t : Tr d) (F P B g off : Nat) (s : WS) (w : World), WkAt w F P s → ExAt w B d t g off → B ≤ F → NmOK d t → Wf s → (s.parts = [] → s.met = 0) → GT16 w → 2 ≤ F → tot s + wM d t ≤ 3000000 →
  Calls Tryd.prog 31 #[.pointer (some ⟨P, 0, none⟩), .pointer (some ⟨g, off, none⟩)] w fun e w' => e = .returned (.tuple #[]) ∧ WkAt w' F P (exprS d t s) ∧ Below F w w'
def altF (d : Nat) (s : WS) (a : AltH × Tr d) : WS := inSc a.1.vars (exprS d a.2) s
theorem alts_kept {d : Nat} (l : List (AltH × Tr d)) {s : WS} (hw : Wf s) (hp : pre2 s.parts s.met) : Wf (l.foldl (altF d) s) ∧ (l.foldl (altF d) s).parts = s.parts ∧ Kept s (l.foldl (altF d) s) := by
  have H2 := Chd.fold2 (fun (a : AltH × Tr d) => inSc a.1.vars (exprS d a.2)) (fun a x => if (dl a.1.vars).contains x then 1 else ofM d a.2 x) (fun a x => if (dl a.1.vars).contains x then 0 else cntN d a.2 x) (fun a => a.1.vars.map (fun n => (n, ofM d a.2 n.data.toList)) ++ allOc d a.2) l (chd_id pre2) (fun a _ => Chd.to2 (chd_inSc (p := pre0) (q := fun x y => y = x) a.1.vars (exprS_chd d a.2)))
  obtain ⟨p2, k2, u2, a2⟩ := H2.2 s hw hp
  exact ⟨hw.step (by rw [show (l.foldl (altF d) s).parts = s.parts from p2]) k2 H2.1 u2, p2, k2⟩
theorem tot_alts16 {d : Nat} (l : List (AltH × Tr d)) (s : WS) : tot (l.foldl (altF d) s) ≤ tot s + (l.map (fun a => 4 * a.1.vars.length + wM d a.2)).sum :=
  tot_fold (fun (a : AltH × Tr d) => inSc a.1.vars (exprS d a.2)) (fun a => 4 * a.1.vars.length + wM d a.2) l s (fun a _ s => tot_inSc a.1.vars (fun s => tot_expr d a.2 s) s)
/-- One alternative. -/
theorem alt_chain {d : Nat} (ih : WkOK d) (a : AltH × Tr d) (F P B g off : Nat) (ov : Option Addr) (cv : Nat) (s : WS) (w : World) (h : WkAt w F P s) (hw : Wf s) (hne : s.parts ≠ []) (hls : ∀ x ∈ a.1.vars, x.size ≤ maxLen) (hN : NmOK d a.2) (hG : GT16 w) (hF : 2 ≤ F) (hB : B ≤ F) (hFw : F ≤ w.heap.size) (ht : tot s + (4 * a.1.vars.length + wM d a.2) ≤ 3000000) (hT : ∀ W : World, Below F w W → TxIn W B ov a.1.vars) (hE : ∀ W : World, Below F w W → ExAt W B d a.2 g off) :
    Calls Tryd.prog 67 #[.pointer (some ⟨P, 0, none⟩), .slice ov a.1.vars.length cv, .int .i64 (s.scope.length : Int)] w fun e w1 => e = .returned (.tuple #[]) ∧ Below F w w1 ∧
      Calls Tryd.prog 31 #[.pointer (some ⟨P, 0, none⟩), .pointer (some ⟨g, off, none⟩)] w1 fun e w2 => e = .returned (.tuple #[]) ∧ Below F w w2 ∧
        Calls Tryd.prog 50 #[.pointer (some ⟨P, 0, none⟩), .int .i64 (s.scope.length : Int)] w2 fun e w3 => e = .returned (.tuple #[]) ∧ WkAt w3 F P (altF d s a) ∧ Below F w w3 := by
  have hts : s.scope.length ≤ tot s := by unfold tot; omega
  obtain ⟨ns1, hb⟩ := bnds_all hw a.1.vars
  have hw1 := hb.wf hw
  have t1 := tot_binds s.scope.length a.1.vars s
  refine (wkBindAll_c F P B a.1.vars hls ov cv s s.scope.length w h (hT w (Below.refl _ _)) hB hFw (by omega) (by omega)).mono ?_
  rintro e w1 ⟨rfl, h1, b1⟩
  refine ⟨rfl, b1, ?_⟩
  have hp1 : (bindsS s.scope.length a.1.vars s).parts = [] → (bindsS s.scope.length a.1.vars s).met = 0 := fun e => absurd (hb.parts.symm.trans e) hne
  refine (ih a.2 F P B g off _ w1 h1 (hE w1 b1) hB hN hw1 hp1 (hG.below hF b1) hF (by omega)).mono ?_
  rintro e w2 ⟨rfl, h2, b2⟩
  refine ⟨rfl, b1.trans b2, ?_⟩
  have t2 := tot_expr d a.2 (bindsS s.scope.length a.1.vars s)
  have k2 := ((exprS_chd d a.2).2 _ hw1 hp1).2.1
  refine (wkUnbind_c F P _ s.scope.length w2 h2 (by omega) (by rw [k2.scope, hb.scope, List.length_append]; omega)).mono ?_
  rintro e w3 ⟨rfl, h3, b3⟩
  exact ⟨rfl, h3, (b1.trans b2).trans b3⟩
theorem alts_snoc (d : Nat) (l : List (AltH × Tr d)) (k : Nat) (h : k < l.length) (s : WS) : (l.take (k + 1)).foldl (altF d) s = altF d ((l.take k).foldl (altF d) s) l[k] := by
  rw [List.take_succ_eq_append_getElem h, List.foldl_append]; rfl
set_option maxHeartbeats 8000000 in
set_option maxRecDepth 100000 in
theorem wkAlts_c (d : Nat) (ih : WkOK d) (l : List (AltH × Tr d)) (o : Option Addr) (cl F P B : Nat) (s : WS) (w : World) (h : WkAt w F P s) (hl : RowIn B 11 (fun (a : AltH × Tr d) g off => w.cell? ⟨g, off, none⟩ = some (.int .i64 a.1.kind) ∧ w.cell? ⟨g, off + 1, none⟩ = some (.string a.1.name) ∧ w.cell? ⟨g, off + 2, none⟩ = some (.int .i64 a.1.num) ∧ (∃ o c, w.cell? ⟨g, off + 3, none⟩ = some (.slice o a.1.vars.length c) ∧ TxIn w B o a.1.vars) ∧ ExAt w B d a.2 g (off + 4)) o l) (hB : B ≤ F) (hN : ∀ a ∈ l, (∀ x ∈ a.1.vars, x.size ≤ maxLen) ∧ NmOK d a.2) (hw : Wf s) (m0 : Nat) (X : List (Nat × Option Nat)) (hp : s.parts = (m0, none) :: X) (hG : GT16 w) (hF : 2 ≤ F) (ht : tot s + (l.map (fun a => 4 * a.1.vars.length + wM d a.2)).sum ≤ 3000000) (hll : l.length ≤ 3000000) :
    Calls Tryd.prog 49 #[.pointer (some ⟨P, 0, none⟩), .slice o l.length cl] w fun e w' => e = .returned (.tuple #[]) ∧ WkAt w' F P (l.foldl (altF d) (setAlts s)) ∧ Below F w w' := by
  obtain ⟨bl, pv, sv, av, m, c, h⟩ := h
  obtain ⟨op, cap, rfl, hn, hcap⟩ := owns_form h.pr
  have hFW := h.FW
  have hlen : s.parts.length = X.length + 1 := by rw [hp]; rfl
  obtain ⟨gp, rfl, lgp, -, -, -⟩ := owns_cell2 h.pr (k := X.length) (by omega)
  have HS : Hid (WkS w F P s bl (.slice (some ⟨gp, 0, none⟩) s.parts.length cap) sv av m c) := h
  obtain ⟨c0, c1, c2, c3, c4, c5, f0, f1, f2, f4, f5⟩ := h.blk.all6
  have lP := h.blk.lt
  have htyp := h.typv (g := gp) rfl
  have hgP : gp ≠ P := neT htyp h.tyP (by decide)
  have hFp : F ≤ gp := (owns_lt h.pr (g := gp) rfl).1
  obtain ⟨n, hnn⟩ : ∃ n, s.parts.length = n := ⟨_, rfl⟩
  obtain ⟨mt, hmt⟩ : ∃ mt, s.met = mt := ⟨_, rfl⟩
  have hpr : w.ownsRow F 116 2 (.slice (some ⟨gp, 0, none⟩) n cap) n (pL X ++ [.int .i64 (m0 : Int), .int .i64 9223372036854775807]) := by
    have := h.pr
    rw [hnn, hp, pL_cons] at this
    exact this
  have hoff : (n - 1) * 2 + 1 = (pL X).length + 1 := by rw [pL_len]; omega
  have cold : w.cell? ⟨gp, (n - 1) * 2 + 1, none⟩ = some (.int .i64 9223372036854775807) := by
    obtain ⟨g', eg, -, -, -, q2⟩ := owns_cell2 hpr (k := n - 1) (by omega)
    cases eg
    rw [q2, hoff, List.getElem?_append_right (by omega)]
    simp
  obtain ⟨cur, hcur⟩ := owns_blk hpr
  have fold0 := hcur.frozen ((n - 1) * 2 + 1)
  have hA : Hid (∀ V : World, V = (w.setCell ⟨gp, (n - 1) * 2 + 1, none⟩ (.int .i64 (mt : Int))).drew → WkAt V F P (setAlts s) ∧ Below F w V) := by
    intro V hV
    subst hV
    have hbs := But.set gp w ((n - 1) * 2 + 1) (.int .i64 (mt : Int))
    have hr := owns_set2 (v := .int .i64 (mt : Int)) hpr
    rw [← hoff] at hr
    have e : setAlts s = { s with parts := (m0, some mt) :: X } := by unfold setAlts; rw [hp, hmt]
    have hPb : Blk (w.setCell ⟨gp, (n - 1) * 2 + 1, none⟩ (.int .i64 (mt : Int))) P #[.slice (some ⟨gp, 0, none⟩) n cap, .int .i64 (s.lam : Int), .int .i64 (s.met : Int), .map (some m), sv, av] 73 := by
      have := blk_same h.blk (hbs.block P h.blk.lt (Ne.symm hgP))
      rw [hnn] at this; exact this
    have hx := h.setParts (W' := w.setCell ⟨gp, (n - 1) * 2 + 1, none⟩ (.int .i64 (mt : Int))) hbs.size (fun g h1 h2 h3 => hbs.block g h1 (fun e9 => h3 (by rw [e9]; rfl))) (pv' := .slice (some ⟨gp, 0, none⟩) n cap) (l := (m0, some mt) :: X) hPb (by rw [pL_cons, List.length_cons, ← hlen, hnn]; exact hr)
    exact ⟨⟨bl, _, sv, av, m, c, by rw [e]; exact hx.drew⟩, ((Below.refl F w).setCell (p := ⟨gp, (n - 1) * 2 + 1, none⟩) hFp _).drew⟩
  have hwA : Wf (setAlts s) := hw.setAlts
  have hpA : pre2 (setAlts s).parts (setAlts s).met := by
    have hm0 : m0 ≤ s.met := hw.mt (m0, none) (by rw [hp]; exact List.mem_cons_self)
    refine ⟨m0, s.met, X, ?_, hm0, ?_⟩
    · unfold setAlts; rw [hp]
    · unfold setAlts; rw [hp]; exact Nat.le_refl _
  have htA : tot (setAlts s) = tot s := tot_alts s
  obtain ⟨sA, hsA⟩ : ∃ sA, setAlts s = sA := ⟨_, rfl⟩
  rw [hsA] at hA hwA hpA htA ⊢
  have HR : Hid (∀ k (hk : k < l.length), ∃ g off ov cv, o = some ⟨g, off, none⟩ ∧ g < w.heap.size ∧ ∀ W : World, Below F w W → W.cell? ⟨g, off + k * 11 + 3, none⟩ = some (.slice ov l[k].1.vars.length cv) ∧ ∀ ns, ((l.take k).foldl (altF d) sA).scope.length = ns → WkAt W F P ((l.take k).foldl (altF d) sA) →
      Calls Tryd.prog 67 #[.pointer (some ⟨P, 0, none⟩), .slice ov l[k].1.vars.length cv, .int .i64 (ns : Int)] W fun e w1 => e = .returned (.tuple #[]) ∧ Below F w w1 ∧
        Calls Tryd.prog 31 #[.pointer (some ⟨P, 0, none⟩), .pointer (some ⟨g, off + k * 11 + 4, none⟩)] w1 fun e w2 => e = .returned (.tuple #[]) ∧ Below F w w2 ∧
          Calls Tryd.prog 50 #[.pointer (some ⟨P, 0, none⟩), .int .i64 (ns : Int)] w2 fun e w3 => e = .returned (.tuple #[]) ∧ WkAt w3 F P ((l.take (k + 1)).foldl (altF d) sA) ∧ Below F w w3) := by
    intro k hk
    rcases hl with h9 | ⟨g, off, eo, hg, h9⟩
    · rw [h9] at hk; cases hk
    obtain ⟨-, -, -, ⟨ov, cv, q3, q4⟩, q5⟩ := h9 k hk
    refine ⟨g, off, ov, cv, eo, by omega, fun W hW => ⟨(hW.cell (p := ⟨g, off + k * 11 + 3, none⟩) (by show g < F; omega)).trans q3, fun ns hns hWk => ?_⟩⟩
    obtain ⟨hwk, hpk, hkk⟩ := alts_kept (l.take k) hwA hpA
    have t1 := tot_alts16 (l.take k) sA
    have t2 := take_sum (fun a : AltH × Tr d => 4 * a.1.vars.length + wM d a.2) l k hk
    have t3 := take_le (fun a : AltH × Tr d => 4 * a.1.vars.length + wM d a.2) l (k + 1)
    obtain ⟨m1, mA, X1, hpp, -⟩ := hpA
    rw [alts_snoc d l k hk]
    subst hns
    refine (alt_chain ih l[k] F P B g (off + k * 11 + 4) ov cv _ W hWk hwk (by rw [hpk, hpp]; exact List.cons_ne_nil _ _) (hN _ (List.getElem_mem hk)).1 (hN _ (List.getElem_mem hk)).2 (hG.below hF hW) hF hB (Nat.le_trans hFW hW.size) (by omega) (fun W' hW' => q4.same (fun g off hg => (hW.trans hW').cell (p := ⟨g, off, none⟩) (by show g < F; omega))) (fun W' hW' => ExAt.same (fun g off hg => (hW.trans hW').cell (p := ⟨g, off, none⟩) (by show g < F; omega)) d _ _ _ q5)).mono ?_
    rintro e w1 ⟨rfl, b1, k1⟩
    refine ⟨rfl, hW.trans b1, k1.mono ?_⟩
    rintro e w2 ⟨rfl, b2, k2⟩
    refine ⟨rfl, hW.trans b2, k2.mono ?_⟩
    rintro e w3 ⟨rfl, z1, b3⟩
    exact ⟨rfl, z1, hW.trans b3⟩
  obtain ⟨nl, hnl⟩ : ∃ nl, l.length = nl := ⟨_, rfl⟩
  have HN : Hid (l.length = nl) := hnl
  rw [hnl] at hll ⊢
  rw [hnn] at c0
  rw [hmt] at c2
  have hnI : (n : Int) ≤ 3000000 := by have : s.parts.length ≤ tot s := by unfold tot; omega
                                       omega
  have hn1 : (1 : Int) ≤ (n : Int) := by omega
  have hncI : (n : Int) ≤ (cap : Int) := by omega
  have hnlI : (nl : Int) ≤ 3000000 := by omega
  have hm1 : ((n : Int) - 1).toNat = n - 1 := by omega
  clear h hn hcap hFW hlen htyp hFp hnn hmt hpr hoff hcur hwA hpA htA hsA hl hB hN hw hp hG hF ht hnl hll
  go_enter Tryd.func49, Tryd.ntmps49
  go_upto_region 0 with fail
  go_region
  obtain ⟨V, hV⟩ : ∃ V, (w.setCell ⟨gp, (n - 1) * 2 + 1, none⟩ (.int .i64 (mt : Int))).drew = V := ⟨_, rfl⟩
  rw [hV]
  have HI : Hid (WkAt V F P ((l.take 0).foldl (altF d) sA) ∧ Below F w V) := hA.out V hV.symm
  clear hV hA HS c0 c1 c2 c3 c4 c5 f0 f1 f2 f4 f5 lP cold fold0 lgp hgP hnI hn1 hncI hm1
  go_wp2
  go_loopw [24] (fun i wr => ∃ k : Nat, k ≤ nl ∧ i = .int .i64 k ∧ Hid (WkAt wr F P ((l.take k).foldl (altF d) sA) ∧ Below F w wr)) (fun i _ => nl - (intOf i).toNat)
  case atStart => exact ⟨0, Nat.zero_le _, rfl, HI⟩
  case round =>
    obtain ⟨k, hk, rfl, hS⟩ := hrel
    clear HI
    by_cases hkn : k < nl
    · have hkl : k < l.length := by rw [HN.out]; exact hkn
      obtain ⟨g, off, ov, cv, rfl, hg, hR⟩ := HR.out k hkl
      obtain ⟨hc, hch⟩ := hR wr hS.out.2
      have hgw : g < wr.heap.size := Nat.lt_of_lt_of_le hg hS.out.2.size
      have hwk := hS.out.1
      obtain ⟨bl, pv, sv, av, m, c, hq⟩ := hwk
      obtain ⟨os, caps, rfl, -, -⟩ := owns_form hq.sr
      obtain ⟨-, -, -, -, c4, -, -, -, -, -, -⟩ := hq.blk.all6
      have lP := hq.blk.lt
      obtain ⟨ns, hns⟩ : ∃ ns, ((l.take k).foldl (altF d) sA).scope.length = ns := ⟨_, rfl⟩
      have HC := hch ns hns hS.out.1
      have HCk : Hid (Calls Tryd.prog 67 #[.pointer (some ⟨P, 0, none⟩), .slice ov l[k].1.vars.length cv, .int .i64 (ns : Int)] wr fun e w1 => e = .returned (.tuple #[]) ∧ Below F w w1 ∧
        Calls Tryd.prog 31 #[.pointer (some ⟨P, 0, none⟩), .pointer (some ⟨g, off + k * 11 + 4, none⟩)] w1 fun e w2 => e = .returned (.tuple #[]) ∧ Below F w w2 ∧
          Calls Tryd.prog 50 #[.pointer (some ⟨P, 0, none⟩), .int .i64 (ns : Int)] w2 fun e w3 => e = .returned (.tuple #[]) ∧ WkAt w3 F P ((l.take (k + 1)).foldl (altF d) sA) ∧ Below F w w3) := HC
      rw [hns] at c4
      have HG : Hid (g < w.heap.size) := hg
      generalize l[k].1.vars.length = vl at hc HCk
      clear HC hch hR hkl hS HR hk hg hq hns
      go_wp2_with (go_at_call 67; fail)
      refine HCk.out.mono ?_
      rintro e w1 ⟨rfl, b1, hC2⟩
      have HC2 : Hid (Calls Tryd.prog 31 #[.pointer (some ⟨P, 0, none⟩), .pointer (some ⟨g, off + k * 11 + 4, none⟩)] w1 fun e w2 => e = .returned (.tuple #[]) ∧ Below F w w2 ∧
          Calls Tryd.prog 50 #[.pointer (some ⟨P, 0, none⟩), .int .i64 (ns : Int)] w2 fun e w3 => e = .returned (.tuple #[]) ∧ WkAt w3 F P ((l.take (k + 1)).foldl (altF d) sA) ∧ Below F w w3) := hC2
      have hgw1 : g < w1.heap.size := Nat.lt_of_lt_of_le HG.out b1.size
      clear b1 hC2 HCk hc c4 lP hgw
      go_wp2_with (go_at_call 31; fail)
      refine HC2.out.mono ?_
      rintro e w2 ⟨rfl, -, hC3⟩
      have HC3 : Hid (Calls Tryd.prog 50 #[.pointer (some ⟨P, 0, none⟩), .int .i64 (ns : Int)] w2 fun e w3 => e = .returned (.tuple #[]) ∧ WkAt w3 F P ((l.take (k + 1)).foldl (altF d) sA) ∧ Below F w w3) := hC3
      clear hC3 HC2 hgw1
      go_wp2_with (go_at_call 50; fail)
      refine HC3.out.mono ?_
      rintro e w3 ⟨rfl, hr⟩
      have HR2 : Hid (WkAt w3 F P ((l.take (k + 1)).foldl (altF d) sA) ∧ Below F w w3) := hr
      clear hr HC3
      go_wp2
      go_roundw
      case rel => exact ⟨k + 1, hkn, by go_num, HR2⟩
      case measure => simp [intOf]; omega
    · have HF : Hid (WkAt wr F P (l.foldl (altF d) sA) ∧ Below F w wr) := by
        have e : l.take k = l := List.take_of_length_le (by rw [HN.out]; omega)
        have h3 := hS.out
        rw [e] at h3
        exact h3
      clear hS HR
      go_wp2
      go_end0
      exact ⟨rfl, HF.out⟩
end Go.Proofs.YtjmpjfggbhongaaDoor
