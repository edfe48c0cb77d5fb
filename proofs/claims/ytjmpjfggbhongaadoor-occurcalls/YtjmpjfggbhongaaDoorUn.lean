/-
  A walk in memory (stage 16): an expression of every depth.
-/
import Derived.Test.YtjmpjfggbhongaaDoorUm
namespace Go.Proofs.YtjmpjfggbhongaaDoor
open Go.RowKit Go.Shelf Go.Maps
set_option linter.unusedVariables false

set_option maxHeartbeats 16000000 in
set_option maxRecDepth 100000 in
theorem wkExprVar_c (d : Nat) (ih : WkOK d) (t : Tr (d + 1)) (F P B g off : Nat) (s : WS) (w : World) (h : WkAt w F P s) (hE : ExAt w B (d + 1) t g off) (hB : B ≤ F) (hN : NmOK (d + 1) t) (hw : Wf s) (hp : s.parts = [] → s.met = 0) (hG : GT16 w) (hF : 2 ≤ F) (ht : tot s + wM (d + 1) t ≤ 3000000) (hk : TrN.kind t = 1) :
    Calls Tryd.prog 31 #[.pointer (some ⟨P, 0, none⟩), .pointer (some ⟨g, off, none⟩)] w fun e w' => e = .returned (.tuple #[]) ∧ WkAt w' F P (exprS (d + 1) t s) ∧ Below F w w' := by
  have hFw : F ≤ w.heap.size := by obtain ⟨bl, pv, sv, av, m, c, h⟩ := h; exact h.FW
  obtain ⟨o4, k4, o5, k5, o6, k6, e0, e1, e4, e5, e6, hgF, hst, lb, la, ll⟩ := expr_steps ih t F P B g off s w hE hB hFw hN hw hp hG hF ht
  have HEn : Hid (Calls Tryd.prog 47 #[.pointer (some ⟨P, 0, none⟩), .pointer (some ⟨g, off, none⟩)] w fun e w' => e = .returned (.tuple #[]) ∧ WkAt w' F P (bindsS s.scope.length (bndM t) (pushS (TrN.kind t) s)) ∧ Below F w w') :=
    wkEnter_c F P B d t g off hN.2.1 s w h hE hB (by have := wM_succ t; omega)
  obtain ⟨s1, hs1⟩ : ∃ s1, bindsS s.scope.length (bndM t) (pushS (TrN.kind t) s) = s1 := ⟨_, rfl⟩
  obtain ⟨fin, hfin⟩ : ∃ fin, exprS (d + 1) t s = fin := ⟨_, rfl⟩
  rw [hs1] at HEn hst
  rw [hfin] at hst ⊢
  obtain ⟨bl, pv, sv, av, m, c, h⟩ := h
  obtain ⟨os, caps, rfl, -, -⟩ := owns_form h.sr
  obtain ⟨-, -, -, -, c4, -, -, -, -, -, -⟩ := h.blk.all6
  have lP := h.blk.lt
  obtain ⟨ns, hns⟩ : ∃ ns, s.scope.length = ns := ⟨_, rfl⟩
  rw [hns] at c4 hst
  have HSt : Hid (ExStep d t F P g off ns o4 o5 o6 k4 k5 k6 s1 fin w) := hst
  obtain ⟨nb, hnb⟩ : ∃ nb, (TrN.binds t).length = nb := ⟨_, rfl⟩
  obtain ⟨na, hna⟩ : ∃ na, (TrN.args t).length = na := ⟨_, rfl⟩
  have HN : Hid ((TrN.binds t).length = nb ∧ (TrN.args t).length = na) := ⟨hnb, hna⟩
  have HC : Hid ((∀ W, Below F w W → W.cell? ⟨g, off, none⟩ = some (.int .i64 (TrN.kind t)) ∧ W.cell? ⟨g, off + 1, none⟩ = some (.string (TrN.name t)) ∧ W.cell? ⟨g, off + 4, none⟩ = some (.slice o4 nb k4) ∧ W.cell? ⟨g, off + 5, none⟩ = some (.slice o5 na k5) ∧ W.cell? ⟨g, off + 6, none⟩ = some (.slice o6 (TrN.alts t).length k6) ∧ g < W.heap.size)) := by
    intro W hW
    have cc : ∀ k, W.cell? ⟨g, k, none⟩ = w.cell? ⟨g, k, none⟩ := fun k => hW.cell (p := ⟨g, k, none⟩) hgF
    rw [cc, cc, cc, cc, cc, ← hnb, ← hna]
    exact ⟨e0, e1, e4, e5, e6, by have := hW.size; omega⟩
  have HL : Hid (∀ g' , g' < w.heap.size → ∀ W, Below F w W → g' < W.heap.size) := fun g' h1 W hW => Nat.lt_of_lt_of_le h1 hW.size
  have hnbI : (nb : Int) ≤ 3000000 := by omega
  have hnaI : (na : Int) ≤ 3000000 := by omega
  have HK : Hid (TrN.kind t = 1) := hk
  have HE0 : Hid (∀ W, WkAt W F P s1 ∧ Below F w W → ¬ TrN.kind t = 1 → WkAt W F P (varS t s1) ∧ Below F w W) := fun W hq hk => by
    have e : varS t s1 = s1 := by unfold varS; rw [if_neg hk]
    rw [e]; exact hq
  clear hk hFw e0 e1 e4 e5 e6 hgF hst lb la ll h hE hB hN hw hp hG hF ht hs1 hfin hns hnb hna ih
  go_enter Tryd.func31, Tryd.ntmps31
  go_wp2_with (go_at_call 47; fail)
  refine HEn.out.mono ?_
  rintro e w1 ⟨rfl, q1, q2⟩
  have H1 : Hid (WkAt w1 F P s1 ∧ Below F w w1) := ⟨q1, q2⟩
  obtain ⟨e0, e1, -, -, -, lg⟩ := HC.out w1 q2
  clear q1 q2 HEn c4 lP
  rw [HK.out] at e0
  go_wp2_with (go_at_call 48; fail)
  refine (HSt.out.meet w1 H1.out.2 H1.out.1 HK.out).mono ?_
  rintro e w2 ⟨rfl, q1, q2⟩
  have H2 : Hid (WkAt w2 F P (varS t s1) ∧ Below F w w2) := ⟨q1, q2⟩
  clear q1 q2 e0 e1 lg H1
  go_upto_region 4 with fail
  skip
  have HI : Hid (WkAt w2 F P (((TrN.binds t).take 0).foldl (fun s b => exprS d b.2 s) (varS t s1)) ∧ Below F w w2) := H2
  obtain ⟨-, -, e4, -, -, lg⟩ := HC.out w2 H2.out.2
  clear H2
  go_wp2
  clear e4 lg
  go_loopw [31] (fun i wr => ∃ k : Nat, k ≤ nb ∧ i = .int .i64 k ∧ Hid (WkAt wr F P (((TrN.binds t).take k).foldl (fun s b => exprS d b.2 s) (varS t s1)) ∧ Below F w wr)) (fun i _ => nb - (intOf i).toNat)
  case atStart => exact ⟨0, Nat.zero_le _, rfl, HI⟩
  case round =>
    obtain ⟨k, hk, rfl, hS⟩ := hrel
    clear HI
    by_cases hkn : k < nb
    · obtain ⟨g4, off4, rfl, hg4, hC⟩ := HSt.out.bnd wr k (by rw [HN.out.1]; exact hkn) hS.out.2 hS.out.1
      have HCk : Hid (Calls Tryd.prog 31 #[.pointer (some ⟨P, 0, none⟩), .pointer (some ⟨g4, off4 + k * 8 + 1, none⟩)] wr fun e w' => e = .returned (.tuple #[]) ∧ WkAt w' F P (((TrN.binds t).take (k + 1)).foldl (fun s b => exprS d b.2 s) (varS t s1)) ∧ Below F w w') := hC
      obtain ⟨-, -, e4, -, -, lg⟩ := HC.out wr hS.out.2
      have lg4 := HL.out g4 hg4 wr hS.out.2
      clear hC hS hk hg4
      go_wp2_with (go_at_call 31; fail)
      refine HCk.out.mono ?_
      rintro e w3 ⟨rfl, hr⟩
      have HR2 : Hid (WkAt w3 F P (((TrN.binds t).take (k + 1)).foldl (fun s b => exprS d b.2 s) (varS t s1)) ∧ Below F w w3) := hr
      clear hr HCk e4 lg lg4
      go_wp2
      go_roundw
      case rel => exact ⟨k + 1, hkn, by go_num, HR2⟩
      case measure => simp [intOf]; omega
    · have HF : Hid (WkAt wr F P (((TrN.args t).take 0).foldl (fun s e => exprS d e s) ((TrN.binds t).foldl (fun s b => exprS d b.2 s) (varS t s1))) ∧ Below F w wr) := by
        have e : (TrN.binds t).take k = TrN.binds t := List.take_of_length_le (by rw [HN.out.1]; omega)
        have h3 := hS.out
        rw [e] at h3
        exact h3
      obtain ⟨-, -, -, e5, -, lg⟩ := HC.out wr hS.out.2
      have hknI : ¬ ((k : Int) < (nb : Int)) := by omega
      clear hS hk hkn
      go_wp2
      clear e5 lg hknI
      go_loopw [49] (fun i wr => ∃ k : Nat, k ≤ na ∧ i = .int .i64 k ∧ Hid (WkAt wr F P (((TrN.args t).take k).foldl (fun s e => exprS d e s) ((TrN.binds t).foldl (fun s b => exprS d b.2 s) (varS t s1))) ∧ Below F w wr)) (fun i _ => na - (intOf i).toNat)
      case atStart => exact ⟨0, Nat.zero_le _, rfl, HF⟩
      case round =>
        obtain ⟨j, hj, rfl, hS⟩ := hrel
        clear HF
        by_cases hjn : j < na
        · obtain ⟨g5, off5, rfl, hg5, hC⟩ := HSt.out.arg wr j (by rw [HN.out.2]; exact hjn) hS.out.2 hS.out.1
          have HCk : Hid (Calls Tryd.prog 31 #[.pointer (some ⟨P, 0, none⟩), .pointer (some ⟨g5, off5 + j * 7, none⟩)] wr fun e w' => e = .returned (.tuple #[]) ∧ WkAt w' F P (((TrN.args t).take (j + 1)).foldl (fun s e => exprS d e s) ((TrN.binds t).foldl (fun s b => exprS d b.2 s) (varS t s1))) ∧ Below F w w') := hC
          obtain ⟨-, -, -, e5, -, lg⟩ := HC.out wr hS.out.2
          have lg5 := HL.out g5 hg5 wr hS.out.2
          clear hC hS hj hg5
          go_wp2_with (go_at_call 31; fail)
          refine HCk.out.mono ?_
          rintro e w3 ⟨rfl, hr⟩
          have HR2 : Hid (WkAt w3 F P (((TrN.args t).take (j + 1)).foldl (fun s e => exprS d e s) ((TrN.binds t).foldl (fun s b => exprS d b.2 s) (varS t s1))) ∧ Below F w w3) := hr
          clear hr HCk e5 lg lg5
          go_wp2
          go_roundw
          case rel => exact ⟨j + 1, hjn, by go_num, HR2⟩
          case measure => simp [intOf]; omega
        · have HF : Hid (Calls Tryd.prog 49 #[.pointer (some ⟨P, 0, none⟩), .slice o6 (TrN.alts t).length k6] wr fun e w1 => e = .returned (.tuple #[]) ∧ Below F w w1 ∧
              Calls Tryd.prog 50 #[.pointer (some ⟨P, 0, none⟩), .int .i64 (ns : Int)] w1 fun e w2 => e = .returned (.tuple #[]) ∧ Below F w w2 ∧
                Calls Tryd.prog 51 #[.pointer (some ⟨P, 0, none⟩), .pointer (some ⟨g, off, none⟩)] w2 fun e w3 => e = .returned (.tuple #[]) ∧ WkAt w3 F P fin ∧ Below F w w3) := by
            have e : (TrN.args t).take j = TrN.args t := List.take_of_length_le (by rw [HN.out.2]; omega)
            have h3 := hS.out
            rw [e] at h3
            exact HSt.out.rest wr h3.2 h3.1
          obtain ⟨-, -, -, -, e6, lg⟩ := HC.out wr hS.out.2
          have hjnI : ¬ ((j : Int) < (na : Int)) := by omega
          clear hS hj hjn HSt HC HL
          generalize (TrN.alts t).length = nl at e6 HF
          go_wp2_with (go_at_call 49; fail)
          refine HF.out.mono ?_
          rintro e x1 ⟨rfl, -, z1⟩
          have HZ1 : Hid (Calls Tryd.prog 50 #[.pointer (some ⟨P, 0, none⟩), .int .i64 (ns : Int)] x1 fun e w2 => e = .returned (.tuple #[]) ∧ Below F w w2 ∧
                Calls Tryd.prog 51 #[.pointer (some ⟨P, 0, none⟩), .pointer (some ⟨g, off, none⟩)] w2 fun e w3 => e = .returned (.tuple #[]) ∧ WkAt w3 F P fin ∧ Below F w w3) := z1
          clear z1 HF e6 lg hjnI
          go_wp2_with (go_at_call 50; fail)
          refine HZ1.out.mono ?_
          rintro e x2 ⟨rfl, -, z2⟩
          have HZ2 : Hid (Calls Tryd.prog 51 #[.pointer (some ⟨P, 0, none⟩), .pointer (some ⟨g, off, none⟩)] x2 fun e w3 => e = .returned (.tuple #[]) ∧ WkAt w3 F P fin ∧ Below F w w3) := z2
          clear z2 HZ1
          go_wp2_with (go_at_call 51; fail)
          refine HZ2.out.mono ?_
          rintro e x3 ⟨rfl, z3⟩
          have HZ3 : Hid (WkAt x3 F P fin ∧ Below F w x3) := z3
          clear z3 HZ2
          go_wp2
          go_end0
          exact ⟨rfl, HZ3.out⟩
set_option maxHeartbeats 16000000 in
set_option maxRecDepth 100000 in
theorem wkExprNo_c (d : Nat) (ih : WkOK d) (t : Tr (d + 1)) (F P B g off : Nat) (s : WS) (w : World) (h : WkAt w F P s) (hE : ExAt w B (d + 1) t g off) (hB : B ≤ F) (hN : NmOK (d + 1) t) (hw : Wf s) (hp : s.parts = [] → s.met = 0) (hG : GT16 w) (hF : 2 ≤ F) (ht : tot s + wM (d + 1) t ≤ 3000000) (hk : ¬ TrN.kind t = 1) :
    Calls Tryd.prog 31 #[.pointer (some ⟨P, 0, none⟩), .pointer (some ⟨g, off, none⟩)] w fun e w' => e = .returned (.tuple #[]) ∧ WkAt w' F P (exprS (d + 1) t s) ∧ Below F w w' := by
  have hFw : F ≤ w.heap.size := by obtain ⟨bl, pv, sv, av, m, c, h⟩ := h; exact h.FW
  obtain ⟨o4, k4, o5, k5, o6, k6, e0, e1, e4, e5, e6, hgF, hst, lb, la, ll⟩ := expr_steps ih t F P B g off s w hE hB hFw hN hw hp hG hF ht
  have HEn : Hid (Calls Tryd.prog 47 #[.pointer (some ⟨P, 0, none⟩), .pointer (some ⟨g, off, none⟩)] w fun e w' => e = .returned (.tuple #[]) ∧ WkAt w' F P (bindsS s.scope.length (bndM t) (pushS (TrN.kind t) s)) ∧ Below F w w') :=
    wkEnter_c F P B d t g off hN.2.1 s w h hE hB (by have := wM_succ t; omega)
  obtain ⟨s1, hs1⟩ : ∃ s1, bindsS s.scope.length (bndM t) (pushS (TrN.kind t) s) = s1 := ⟨_, rfl⟩
  obtain ⟨fin, hfin⟩ : ∃ fin, exprS (d + 1) t s = fin := ⟨_, rfl⟩
  rw [hs1] at HEn hst
  rw [hfin] at hst ⊢
  obtain ⟨bl, pv, sv, av, m, c, h⟩ := h
  obtain ⟨os, caps, rfl, -, -⟩ := owns_form h.sr
  obtain ⟨-, -, -, -, c4, -, -, -, -, -, -⟩ := h.blk.all6
  have lP := h.blk.lt
  obtain ⟨ns, hns⟩ : ∃ ns, s.scope.length = ns := ⟨_, rfl⟩
  rw [hns] at c4 hst
  have HSt : Hid (ExStep d t F P g off ns o4 o5 o6 k4 k5 k6 s1 fin w) := hst
  obtain ⟨nb, hnb⟩ : ∃ nb, (TrN.binds t).length = nb := ⟨_, rfl⟩
  obtain ⟨na, hna⟩ : ∃ na, (TrN.args t).length = na := ⟨_, rfl⟩
  have HN : Hid ((TrN.binds t).length = nb ∧ (TrN.args t).length = na) := ⟨hnb, hna⟩
  have HC : Hid ((∀ W, Below F w W → W.cell? ⟨g, off, none⟩ = some (.int .i64 (TrN.kind t)) ∧ W.cell? ⟨g, off + 1, none⟩ = some (.string (TrN.name t)) ∧ W.cell? ⟨g, off + 4, none⟩ = some (.slice o4 nb k4) ∧ W.cell? ⟨g, off + 5, none⟩ = some (.slice o5 na k5) ∧ W.cell? ⟨g, off + 6, none⟩ = some (.slice o6 (TrN.alts t).length k6) ∧ g < W.heap.size)) := by
    intro W hW
    have cc : ∀ k, W.cell? ⟨g, k, none⟩ = w.cell? ⟨g, k, none⟩ := fun k => hW.cell (p := ⟨g, k, none⟩) hgF
    rw [cc, cc, cc, cc, cc, ← hnb, ← hna]
    exact ⟨e0, e1, e4, e5, e6, by have := hW.size; omega⟩
  have HL : Hid (∀ g' , g' < w.heap.size → ∀ W, Below F w W → g' < W.heap.size) := fun g' h1 W hW => Nat.lt_of_lt_of_le h1 hW.size
  have hnbI : (nb : Int) ≤ 3000000 := by omega
  have hnaI : (na : Int) ≤ 3000000 := by omega
  have HK : Hid (¬ TrN.kind t = 1) := hk
  have HE0 : Hid (∀ W, WkAt W F P s1 ∧ Below F w W → ¬ TrN.kind t = 1 → WkAt W F P (varS t s1) ∧ Below F w W) := fun W hq hk => by
    have e : varS t s1 = s1 := by unfold varS; rw [if_neg hk]
    rw [e]; exact hq
  clear hFw e0 e1 e4 e5 e6 hgF hst lb la ll h hE hB hN hw hp hG hF ht hs1 hfin hns hnb hna ih
  go_enter Tryd.func31, Tryd.ntmps31
  go_wp2_with (go_at_call 47; fail)
  refine HEn.out.mono ?_
  rintro e w1 ⟨rfl, q1, q2⟩
  have H1 : Hid (WkAt w1 F P s1 ∧ Below F w w1) := ⟨q1, q2⟩
  obtain ⟨e0, e1, -, -, -, lg⟩ := HC.out w1 q2
  clear q1 q2 HEn c4 lP
  have H2 : Hid (WkAt w1 F P (varS t s1) ∧ Below F w w1) := HE0.out w1 H1.out HK.out
  clear H1
  go_upto_region 4 with fail
  have hkf : (TrN.kind t == 1) = false := by have := HK.out; simpa using this
  rw [hkf]
  clear hkf hk e0 e1 lg
  have HI : Hid (WkAt w1 F P (((TrN.binds t).take 0).foldl (fun s b => exprS d b.2 s) (varS t s1)) ∧ Below F w w1) := H2
  obtain ⟨-, -, e4, -, -, lg⟩ := HC.out w1 H2.out.2
  clear H2
  go_wp2
  clear e4 lg
  go_loopw [31] (fun i wr => ∃ k : Nat, k ≤ nb ∧ i = .int .i64 k ∧ Hid (WkAt wr F P (((TrN.binds t).take k).foldl (fun s b => exprS d b.2 s) (varS t s1)) ∧ Below F w wr)) (fun i _ => nb - (intOf i).toNat)
  case atStart => exact ⟨0, Nat.zero_le _, rfl, HI⟩
  case round =>
    obtain ⟨k, hk, rfl, hS⟩ := hrel
    clear HI
    by_cases hkn : k < nb
    · obtain ⟨g4, off4, rfl, hg4, hC⟩ := HSt.out.bnd wr k (by rw [HN.out.1]; exact hkn) hS.out.2 hS.out.1
      have HCk : Hid (Calls Tryd.prog 31 #[.pointer (some ⟨P, 0, none⟩), .pointer (some ⟨g4, off4 + k * 8 + 1, none⟩)] wr fun e w' => e = .returned (.tuple #[]) ∧ WkAt w' F P (((TrN.binds t).take (k + 1)).foldl (fun s b => exprS d b.2 s) (varS t s1)) ∧ Below F w w') := hC
      obtain ⟨-, -, e4, -, -, lg⟩ := HC.out wr hS.out.2
      have lg4 := HL.out g4 hg4 wr hS.out.2
      clear hC hS hk hg4
      go_wp2_with (go_at_call 31; fail)
      refine HCk.out.mono ?_
      rintro e w3 ⟨rfl, hr⟩
      have HR2 : Hid (WkAt w3 F P (((TrN.binds t).take (k + 1)).foldl (fun s b => exprS d b.2 s) (varS t s1)) ∧ Below F w w3) := hr
      clear hr HCk e4 lg lg4
      go_wp2
      go_roundw
      case rel => exact ⟨k + 1, hkn, by go_num, HR2⟩
      case measure => simp [intOf]; omega
    · have HF : Hid (WkAt wr F P (((TrN.args t).take 0).foldl (fun s e => exprS d e s) ((TrN.binds t).foldl (fun s b => exprS d b.2 s) (varS t s1))) ∧ Below F w wr) := by
        have e : (TrN.binds t).take k = TrN.binds t := List.take_of_length_le (by rw [HN.out.1]; omega)
        have h3 := hS.out
        rw [e] at h3
        exact h3
      obtain ⟨-, -, -, e5, -, lg⟩ := HC.out wr hS.out.2
      have hknI : ¬ ((k : Int) < (nb : Int)) := by omega
      clear hS hk hkn
      go_wp2
      clear e5 lg hknI
      go_loopw [49] (fun i wr => ∃ k : Nat, k ≤ na ∧ i = .int .i64 k ∧ Hid (WkAt wr F P (((TrN.args t).take k).foldl (fun s e => exprS d e s) ((TrN.binds t).foldl (fun s b => exprS d b.2 s) (varS t s1))) ∧ Below F w wr)) (fun i _ => na - (intOf i).toNat)
      case atStart => exact ⟨0, Nat.zero_le _, rfl, HF⟩
      case round =>
        obtain ⟨j, hj, rfl, hS⟩ := hrel
        clear HF
        by_cases hjn : j < na
        · obtain ⟨g5, off5, rfl, hg5, hC⟩ := HSt.out.arg wr j (by rw [HN.out.2]; exact hjn) hS.out.2 hS.out.1
          have HCk : Hid (Calls Tryd.prog 31 #[.pointer (some ⟨P, 0, none⟩), .pointer (some ⟨g5, off5 + j * 7, none⟩)] wr fun e w' => e = .returned (.tuple #[]) ∧ WkAt w' F P (((TrN.args t).take (j + 1)).foldl (fun s e => exprS d e s) ((TrN.binds t).foldl (fun s b => exprS d b.2 s) (varS t s1))) ∧ Below F w w') := hC
          obtain ⟨-, -, -, e5, -, lg⟩ := HC.out wr hS.out.2
          have lg5 := HL.out g5 hg5 wr hS.out.2
          clear hC hS hj hg5
          go_wp2_with (go_at_call 31; fail)
          refine HCk.out.mono ?_
          rintro e w3 ⟨rfl, hr⟩
          have HR2 : Hid (WkAt w3 F P (((TrN.args t).take (j + 1)).foldl (fun s e => exprS d e s) ((TrN.binds t).foldl (fun s b => exprS d b.2 s) (varS t s1))) ∧ Below F w w3) := hr
          clear hr HCk e5 lg lg5
          go_wp2
          go_roundw
          case rel => exact ⟨j + 1, hjn, by go_num, HR2⟩
          case measure => simp [intOf]; omega
        · have HF : Hid (Calls Tryd.prog 49 #[.pointer (some ⟨P, 0, none⟩), .slice o6 (TrN.alts t).length k6] wr fun e w1 => e = .returned (.tuple #[]) ∧ Below F w w1 ∧
              Calls Tryd.prog 50 #[.pointer (some ⟨P, 0, none⟩), .int .i64 (ns : Int)] w1 fun e w2 => e = .returned (.tuple #[]) ∧ Below F w w2 ∧
                Calls Tryd.prog 51 #[.pointer (some ⟨P, 0, none⟩), .pointer (some ⟨g, off, none⟩)] w2 fun e w3 => e = .returned (.tuple #[]) ∧ WkAt w3 F P fin ∧ Below F w w3) := by
            have e : (TrN.args t).take j = TrN.args t := List.take_of_length_le (by rw [HN.out.2]; omega)
            have h3 := hS.out
            rw [e] at h3
            exact HSt.out.rest wr h3.2 h3.1
          obtain ⟨-, -, -, -, e6, lg⟩ := HC.out wr hS.out.2
          have hjnI : ¬ ((j : Int) < (na : Int)) := by omega
          clear hS hj hjn HSt HC HL
          generalize (TrN.alts t).length = nl at e6 HF
          go_wp2_with (go_at_call 49; fail)
          refine HF.out.mono ?_
          rintro e x1 ⟨rfl, -, z1⟩
          have HZ1 : Hid (Calls Tryd.prog 50 #[.pointer (some ⟨P, 0, none⟩), .int .i64 (ns : Int)] x1 fun e w2 => e = .returned (.tuple #[]) ∧ Below F w w2 ∧
                Calls Tryd.prog 51 #[.pointer (some ⟨P, 0, none⟩), .pointer (some ⟨g, off, none⟩)] w2 fun e w3 => e = .returned (.tuple #[]) ∧ WkAt w3 F P fin ∧ Below F w w3) := z1
          clear z1 HF e6 lg hjnI
          go_wp2_with (go_at_call 50; fail)
          refine HZ1.out.mono ?_
          rintro e x2 ⟨rfl, -, z2⟩
          have HZ2 : Hid (Calls Tryd.prog 51 #[.pointer (some ⟨P, 0, none⟩), .pointer (some ⟨g, off, none⟩)] x2 fun e w3 => e = .returned (.tuple #[]) ∧ WkAt w3 F P fin ∧ Below F w w3) := z2
          clear z2 HZ1
          go_wp2_with (go_at_call 51; fail)
          refine HZ2.out.mono ?_
          rintro e x3 ⟨rfl, z3⟩
          have HZ3 : Hid (WkAt x3 F P fin ∧ Below F w x3) := z3
          clear z3 HZ2
          go_wp2
          go_end0
          exact ⟨rfl, HZ3.out⟩
theorem wkOK : ∀ d : Nat, WkOK d
  | 0 => fun t => nomatch t
  | d + 1 => fun t F P B g off s w h hE hB hN hw hp hG hF ht => by
    by_cases hk : TrN.kind t = 1
    · exact wkExprVar_c d (wkOK d) t F P B g off s w h hE hB hN hw hp hG hF ht hk
    · exact wkExprNo_c d (wkOK d) t F P B g off s w h hE hB hN hw hp hG hF ht hk
end Go.Proofs.YtjmpjfggbhongaaDoor
