/-
  Package groups: from, by a contract.
-/
import Derived.Test.YtkkpkcigflikkaaHf
namespace Go.Proofs.Ytkkpkcigflikkaa
open Go.RowKit Go.Shelf Go.Maps G
set_option linter.unusedVariables false

/-- How the search stands in its loop. -/
structure FrI (w : World) (Y : Lay) (n U : Nat) (adj : Nat → List Nat) (met0 : Nat → Nat) (p g : Nat) (W : World) (wv ov : Value) (met : Nat → Nat) (low : Nat → Option Nat) (grp : Nat → List Nat) (way : List V) (opn : List Nat) (now : Nat) : Prop where
  sr : SrAt W Y n adj wv ov met low grp way opn now
  iv : Inv n adj met low grp way opn now
  mm : ∀ x, 0 < met0 x → 0 < met x
  mp : 0 < met p
  bl : Below Y.b w W
  fu : (n - now) * (U + 2) + wsum adj way ≤ g
def FrPost (w : World) (Y : Lay) (n : Nat) (adj : Nat → List Nat) (met0 : Nat → Nat) (p : Nat) (W' : World) : Prop :=
  ∃ wv ov met low grp opn now, SrAt W' Y n adj wv ov met low grp [] opn now ∧ Inv n adj met low grp [] opn now ∧ (∀ x, 0 < met0 x → 0 < met x) ∧ 0 < met p ∧ Below Y.b w W'
theorem wsum_nil (adj : Nat → List Nat) : wsum adj [] = 0 := rfl
theorem snoc_or (way : List V) : way = [] ∨ ∃ ws v, way = ws ++ [v] := by
  by_cases h : way = []
  · exact .inl h
  · exact .inr ⟨way.dropLast, way.getLast h, (List.dropLast_concat_getLast h).symm⟩
set_option maxHeartbeats 8000000 in
set_option maxRecDepth 100000 in
theorem from_c (Y : Lay) (n U : Nat) (adj : Nat → List Nat) (wv ov : Value) (met : Nat → Nat) (low : Nat → Option Nat) (grp : Nat → List Nat) (opn : List Nat) (now p : Nat) (hn : n ≤ 20000) (hU : ∀ x, x < n → (adj x).length ≤ U) (hU2 : U ≤ 1000000) (hadj : ∀ x, x < n → ∀ y ∈ adj x, y < n) (hp : p < n) (hp0 : met p = 0) (w : World) (h : SrAt w Y n adj wv ov met low grp [] opn now) (hI : Inv n adj met low grp [] opn now) :
    Calls Try.prog 36 #[.pointer (some ⟨Y.P, 0, none⟩), .int .i64 (p : Int)] w fun r W' => r = .returned (.tuple #[]) ∧ FrPost w Y n adj met p W' := by
  have hdep : Try.prog.follows Departure.mixedOrders = true := by kernel_rfl
  have hni : (n : Int) ≤ 20000 := by omega
  have HN : Hid (n ≤ 20000 ∧ (∀ x, x < n → (adj x).length ≤ U) ∧ U ≤ 1000000 ∧ (∀ x, x < n → ∀ y ∈ adj x, y < n)) := ⟨hn, hU, hU2, hadj⟩
  have hE := enter_c Y n adj wv ov met low grp [] opn now p hp hn (by have := hI.now_le; omega) (by simp) (by have := hI.opn_le; omega) w h
  have HE : Hid (Calls Try.prog 43 #[.pointer (some ⟨Y.P, 0, none⟩), .int .i64 (p : Int)] w fun r W' => r = .returned (.tuple #[]) ∧ ∃ wv' ov', FrI w Y n U adj met p (n * (U + 2)) W' wv' ov' (upd met p (now + 1)) low grp [⟨p, 0, now + 1⟩] (opn ++ [p]) (now + 1)) := by
    refine hE.mono ?_
    rintro e W' ⟨rfl, wv', ov', h1, h2⟩
    refine ⟨rfl, wv', ov', h1, hI.enter hp0 hp (fun e he => by simp at he), fun x hx => ?_, by rw [upd_at]; omega, h2, ?_⟩
    · by_cases e : x = p
      · subst e; omega
      · rw [upd_ne _ _ e]; exact hx
    · have hr := hI.room hp0 hp
      have hu := hU p hp
      obtain ⟨d, hd⟩ : ∃ d, n = now + 1 + d := ⟨n - now - 1, by omega⟩
      show (n - (now + 1)) * (U + 2) + ((adj p).length - 0 + 1 + 0) ≤ n * (U + 2)
      have e1 : n - (now + 1) = d := by omega
      have e2 : n * (U + 2) = d * (U + 2) + (now + 1) * (U + 2) := by rw [hd, Nat.add_comm (now + 1) d, Nat.add_mul]
      have e3 : U + 2 ≤ (now + 1) * (U + 2) := Nat.le_mul_of_pos_left _ (by omega)
      rw [e1, e2]; omega
  clear hE h hI hn hU hU2 hadj hp0 hp
  go_enter Try.func36, Try.ntmps36
  go_wp2_with (go_at_call 43; fail)
  refine HE.out.mono ?_
  rintro e W1 ⟨rfl, wv1, ov1, hF1⟩
  have HF1 : Hid (FrI w Y n U adj met p (n * (U + 2)) W1 wv1 ov1 (upd met p (now + 1)) low grp [⟨p, 0, now + 1⟩] (opn ++ [p]) (now + 1)) := hF1
  clear hF1 HE
  go_wp2
  go_loopg [4] (n * (U + 2)) (fun g v4 wr => Hid (∃ wv ov met1 low grp way opn now, FrI w Y n U adj met p g wr wv ov met1 low grp way opn now))
  case atStart => exact ⟨_, _, _, _, _, _, _, _, HF1.out⟩
  case round =>
    clear HF1
    obtain ⟨wv, ov, met1, low, grp, way, opn, now, hF⟩ := hrel.out
    clear hrel
    have HF : Hid (FrI w Y n U adj met p gk wr wv ov met1 low grp way opn now) := hF
    obtain ⟨c0, c1, c2, c3, c4, c5, c6, f4, f5, f6, lP⟩ := hF.sr.cells
    rcases snoc_or way with rfl | ⟨ws, v, rfl⟩
    · obtain ⟨o0, k0, rfl, hk0, hk1⟩ := owns_form hF.sr.wr
      have HP : Hid (FrPost w Y n adj met p wr) := ⟨_, _, _, _, _, _, _, hF.sr, hF.iv, hF.mm, hF.mp, hF.bl⟩
      have c4 : wr.cell? ⟨Y.P, 4, none⟩ = some (.slice o0 0 k0) := c4
      clear hF
      go_wp2
      go_end0
      exact ⟨rfl, HP.out⟩
    · obtain ⟨wg, cap, hwv, hFg, hwg⟩ := hF.sr.wr.form (by rw [List.length_append]; simp)
      subst hwv
      obtain ⟨m, hm⟩ : ∃ m, ws.length = m := ⟨_, rfl⟩
      have hl : (ws ++ [v]).length = m + 1 := by simp [hm]
      obtain ⟨v0, v1, v2, vf, vl, vcap, vcm⟩ := hF.sr.visit (i := m) (by omega)
      have hget : (ws ++ [v])[m]'(by omega) = v := by subst hm; simp
      rw [hget] at v0 v1 v2
      rw [hl] at c4 vcap
      have hmi : (m : Int) ≤ 20000 := by have := hF.iv.way_le; have := HN.out.1; omega
      have hci : (m : Int) + 1 ≤ (cap : Int) := by omega
      have hcm : (cap : Int) ≤ 9223372036854775807 := by omega
      have hvp : v.p < n := hF.iv.mn _ (hF.iv.opn_met (hF.iv.wo v (by simp)))
      have hvi : (v.p : Int) < (n : Int) := by omega
      have hvk : v.k ≤ (adj v.p).length := (hF.iv.wb v (by simp)).1
      have hUl := HN.out.2.1 v.p hvp
      have hki : (v.k : Int) ≤ 1000000 := by have := HN.out.2.2.1; omega
      have hai : ((adj v.p).length : Int) ≤ 1000000 := by have := HN.out.2.2.1; omega
      obtain ⟨uo, uc, ulen, ucl, ucm⟩ := hF.sr.us.len hvp
      have uU : Y.U < wr.heap.size := by obtain ⟨_, u, h1, _⟩ := hF.sr.us; exact h1.lt
      have HM : Hid (ws.length = m ∧ v.p < n ∧ v.k ≤ (adj v.p).length ∧ (adj v.p).length ≤ U) := ⟨hm, hvp, hvk, hUl⟩
      by_cases hend : v.k = (adj v.p).length
      · have hL := leave_c Y n adj _ ov met1 low grp ws v opn now HN.out.1 hend wr.drew.drew hF.sr.drew.drew hF.iv
        have HL : Hid (Calls Try.prog 44 #[.pointer (some ⟨Y.P, 0, none⟩)] wr.drew.drew fun r W' => r = .returned (.tuple #[]) ∧ LvPost wr.drew.drew Y n adj met1 ws now W') := hL
        have het : ((v.k : Int) == ((adj v.p).length : Int)) = true := by rw [hend]; simp
        have HEn : Hid (v.k = (adj v.p).length) := hend
        generalize (adj v.p).length = al at het ulen hai ucl
        clear hL hend hF hm hl hget vcap vcm hvp hvk hUl hFg
        go_wp2
        go_region
        go_wp2
        go_region
        go_wp2_with (go_at_call 44; fail)
        refine HL.out.mono ?_
        rintro e W2 ⟨rfl, hL2⟩
        have HL2 : Hid (LvPost wr.drew.drew Y n adj met1 ws now W2) := hL2
        clear hL2 HL
        go_wp2
        go_roundg (gk - 1)
        case measure =>
          have h1 := HF.out.fu
          rw [wsum_snoc] at h1
          omega
        case rel =>
          obtain ⟨wv2, ov2, low2, grp2, way2, opn2, h1, h2, h3, h4⟩ := HL2.out
          have h5 := HF.out.fu
          rw [wsum_snoc] at h5
          exact ⟨wv2, ov2, met1, low2, grp2, way2, opn2, now, h1, h2, HF.out.mm, HF.out.mp, (HF.out.bl.drew.drew).trans h4, by rw [h3]; omega⟩
      · have hlt : v.k < (adj v.p).length := by omega
        have hef : ((v.k : Int) == ((adj v.p).length : Int)) = false := by simp; omega
        obtain ⟨ug, ucap2, ue, ua1, ua2, ua3, ua4, ua5⟩ := hF.sr.us.at hvp hlt
        have ulen2 := ulen.symm.trans ue
        obtain ⟨q, hq⟩ : ∃ q, (adj v.p)[v.k] = q := ⟨_, rfl⟩
        rw [hq] at ua5
        have ua6 : wr.cell? ⟨ug, v.k, none⟩ = some (.int .i64 (q : Int)) := ua5
        clear ua5
        have hqa : q ∈ adj v.p := hq ▸ List.getElem_mem hlt
        have hqn : q < n := HN.out.2.2.2 v.p hvp q hqa
        have hqi : (q : Int) < (n : Int) := by omega
        have hkl : (v.k : Int) < ((adj v.p).length : Int) := by omega
        have mq : wr.cell? ⟨Y.M, q, none⟩ = some (.int .i64 (met1 q : Int)) := hF.sr.mt.cell hqn
        have lM := hF.sr.mt.lt
        have lq : wr.cell? ⟨Y.L, q, none⟩ = some (lv (low q)) := hF.sr.lw.cell hqn
        have lL := hF.sr.lw.lt
        have hPwg : Y.P ≠ wg := by have := hF.sr.ok.PF; omega
        have hMwg : Y.M ≠ wg := by have := hF.sr.ok.MF; omega
        have hLwg : Y.L ≠ wg := by have := hF.sr.ok.LF; omega
        have vf1 := vf (m * 3 + 1)
        have vf2 := vf (m * 3 + 2)
        have HQ : Hid (q ∈ adj v.p ∧ q < n ∧ v.k < (adj v.p).length ∧ (adj v.p)[v.k]? = some q) := ⟨hqa, hqn, hlt, by rw [List.getElem?_eq_getElem hlt, hq]⟩
        have HSW : Hid (SrAt (wr.setCell ⟨wg, m * 3 + 1, none⟩ (.int .i64 ((v.k : Int) + 1))) Y n adj (.slice (some ⟨wg, 0, none⟩) (m + 1) cap) ov met1 low grp (ws ++ [⟨v.p, v.k + 1, v.b⟩]) opn now) := by
          have h1 := hF.sr.setWay m 1 ⟨v.p, v.k + 1, v.b⟩ (.int .i64 ((v.k + 1 : Nat) : Int)) (by omega) (by decide) (by rw [hget]; rfl)
          have e2 : (ws ++ [v]).set m ⟨v.p, v.k + 1, v.b⟩ = ws ++ [⟨v.p, v.k + 1, v.b⟩] := by rw [← hm]; exact set_last _ _ _
          rw [e2, hl] at h1
          exact h1
        generalize (adj v.p).length = al at hef ue hai hkl
        clear ulen ulen2 ucl ucm hend hF hm hl hget vcap vcm hvp hvk hUl hFg hlt hqa hqn hq ua1 ua2
        go_wp2
        go_region
        go_wp2
        go_region
        go_wp2
        go_region
        have HI2 : Hid (0 < met1 q → (q ∈ opn → v.b ≤ met1 q) → Inv n adj met1 low grp (ws ++ [⟨v.p, v.k + 1, v.b⟩]) opn now) := fun h1 h2 => by
          have hq4 := HQ.out.2.2.2
          refine HF.out.iv.replace (e := v) (e' := ⟨v.p, v.k + 1, v.b⟩) rfl (Nat.le_refl _) (Nat.le_succ _) HQ.out.2.2.1 (HF.out.iv.wb v (by simp)).2.2 (fun y hy hny => ?_)
          have hyq : y = q := by
            have hy' : y ∈ (adj v.p).take (v.k + 1) := hy
            rw [List.take_add_one, hq4] at hy'
            rcases List.mem_append.1 hy' with h3 | h3
            · exact absurd h3 hny
            · simpa using h3
          rw [hyq]; exact ⟨h1, h2⟩
        have hWF : Hid ((n - now) * (U + 2) + wsum adj (ws ++ [⟨v.p, v.k + 1, v.b⟩]) < gk ∧ Y.b ≤ wg) := by
          have h5 := HF.out.fu
          rw [wsum_snoc] at h5
          have h6 := HQ.out.2.2.1
          refine ⟨?_, ?_⟩
          · rw [wsum_snoc]
            show _ + (_ + ((adj v.p).length - (v.k + 1) + 1)) < gk
            omega
          · have := HF.out.sr.ok.bP; have := HF.out.sr.ok.PF; have h9 : Y.F ≤ wg := (owns_lt HF.out.sr.wr rfl).1; omega
        by_cases hw0 : met1 q = 0
        · have hw1 : (met1 q : Int) = 0 := by omega
          rw [hw1] at mq
          have hEn := enter_c Y n adj _ ov met1 low grp _ opn now q HQ.out.2.1 HN.out.1 (by have := HF.out.iv.now_le; have := HN.out.1; omega) (by have := HF.out.iv.way_le; have := HN.out.1; simp at *; omega) (by have := HF.out.iv.opn_le; have := HN.out.1; omega) _ HSW.out.drew.drew.drew
          obtain ⟨V1, hV1⟩ : ∃ V1, (wr.setCell ⟨wg, m * 3 + 1, none⟩ (.int .i64 ((v.k : Int) + 1))).drew.drew.drew = V1 := ⟨_, rfl⟩
          have HV1 : Hid ((wr.setCell ⟨wg, m * 3 + 1, none⟩ (.int .i64 ((v.k : Int) + 1))).drew.drew.drew = V1) := hV1
          have HEn : Hid (Calls Try.prog 43 #[.pointer (some ⟨Y.P, 0, none⟩), .int .i64 (q : Int)] V1 fun r W' => r = .returned (.tuple #[]) ∧ ∃ wv' ov', SrAt W' Y n adj wv' ov' (upd met1 q (now + 1)) low grp ((ws ++ [⟨v.p, v.k + 1, v.b⟩]) ++ [⟨q, 0, now + 1⟩]) (opn ++ [q]) (now + 1) ∧ Below Y.b V1 W') := by
            show Calls _ _ _ _ _
            rw [← hV1]; exact hEn
          have HB1 : Hid (Below Y.b w V1) := by show Below _ _ _; rw [← hV1]; exact (HF.out.bl.setCell (p := ⟨wg, m * 3 + 1, none⟩) hWF.out.2 _).drew.drew.drew
          have HW0 : Hid (met1 q = 0) := hw0
          clear hEn hV1 hw0 HSW
          go_wp2_with (go_at_call 43; fail)
          rw [HV1.out]
          refine HEn.out.mono ?_
          rintro e W2 ⟨rfl, wv2, ov2, hs2, hb2⟩
          have HP2 : Hid (FrI w Y n U adj met p (gk - 1) W2 wv2 ov2 (upd met1 q (now + 1)) low grp ((ws ++ [⟨v.p, v.k + 1, v.b⟩]) ++ [⟨q, 0, now + 1⟩]) (opn ++ [q]) (now + 1)) := by
            have hw0 := HW0.out
            have hvw : v ∈ ws ++ [v] := by simp
            have h1 := HF.out.iv.enter hw0 HQ.out.2.1 (fun e he => (HF.out.iv.wr e he v.p (HF.out.iv.wo v hvw) (by
              have hwp := HF.out.iv.wp
              rw [List.pairwise_append] at hwp
              rcases List.mem_append.1 he with he | he
              · exact Nat.le_of_lt (hwp.2.2 e he v (by simp))
              · simp at he; rw [he]; exact Nat.le_refl _)).trans (.edge HQ.out.1))
            have h2 : Inv n adj (upd met1 q (now + 1)) low grp (ws ++ v :: [⟨q, 0, now + 1⟩]) (opn ++ [q]) (now + 1) := by simpa using h1
            have hq4 := HQ.out.2.2.2
            have hvo := HF.out.iv.wo v hvw
            have hvq : v.p ≠ q := fun e => by have := HF.out.iv.opn_met hvo; rw [e] at this; omega
            have hvb := (HF.out.iv.wb v hvw).2.1
            have h3 := h2.replace (e' := ⟨v.p, v.k + 1, v.b⟩) rfl (Nat.le_refl _) (Nat.le_succ _) HQ.out.2.2.1 (h2.wb v (by simp)).2.2 (fun y hy hny => by
              have hyq : y = q := by
                have hy' : y ∈ (adj v.p).take (v.k + 1) := hy
                rw [List.take_add_one, hq4] at hy'
                rcases List.mem_append.1 hy' with h3 | h3
                · exact absurd h3 hny
                · simpa using h3
              rw [hyq, upd_at]
              have := HF.out.iv.ml v.p
              exact ⟨Nat.succ_pos _, fun _ => by show v.b ≤ now + 1; omega⟩)
            have hroom := HF.out.iv.room hw0 HQ.out.2.1
            have hqU := HN.out.2.1 q HQ.out.2.1
            refine ⟨hs2, by simpa using h3, fun x hx => ?_, ?_, HB1.out.trans hb2, ?_⟩
            · have := HF.out.mm x hx
              by_cases e : x = q
              · subst e; omega
              · rw [upd_ne _ _ e]; exact this
            · have := HF.out.mp
              by_cases e : p = q
              · subst e; omega
              · rw [upd_ne _ _ e]; exact this
            · rw [wsum_snoc]
              have h5 := hWF.out.1
              obtain ⟨d, hd⟩ : ∃ d, n - now = d + 1 := ⟨n - now - 1, by omega⟩
              have e1 : n - (now + 1) = d := by omega
              rw [hd, Nat.add_mul] at h5
              rw [e1]
              show d * (U + 2) + (_ + ((adj q).length - 0 + 1)) ≤ gk - 1
              omega
          have HG : Hid (gk - 1 < gk) := by show _ < _; have := hWF.out.1; omega
          clear hs2 hb2 HEn
          go_wp2
          go_roundg (gk - 1)
          case measure => exact HG.out
          case rel => exact ⟨_, _, _, _, _, _, _, _, HP2.out⟩
        · have hw1 : ((met1 q : Int) == 0) = false := by simp; omega
          have hmq : (met1 q : Int) ≤ 20000 := by have := HF.out.iv.ml q; have := HF.out.iv.now_le; have := HN.out.1; omega
          have hbq : (v.b : Int) ≤ 20000 := by have := HF.out.iv.ml v.p; have := HF.out.iv.now_le; have := (HF.out.iv.wb v (by simp)).2.1; have := HN.out.1; omega
          have HW0 : Hid (0 < met1 q) := by show _ < _; omega
          clear hw0
          cases hlow : low q with
          | none =>
            rw [hlow] at lq
            have lq2 : wr.cell? ⟨Y.L, q, none⟩ = some (.int .i64 (-1)) := lq
            have HLo : Hid (low q = none) := hlow
            clear lq hlow
            go_wp2
            go_region
            go_wp2
            go_roundg (gk - 1)
            case measure => have := hWF.out.1; omega
            case rel =>
              have hqo : q ∈ opn := (HF.out.iv.oi q).2 ⟨HW0.out, HLo.out⟩
              have hl : (ws ++ [(⟨v.p, v.k + 1, v.b⟩ : V)]).length = m + 1 := by have := HM.out.1; simp; omega
              have h1 := HSW.out
              rw [← hl] at h1
              have h2 := h1.setWay m 2 ⟨v.p, v.k + 1, min v.b (met1 q)⟩ (.int .i64 ((min v.b (met1 q) : Nat) : Int)) (by omega) (by decide) (by have := HM.out.1; subst this; simp [vC, nv])
              have e1 : min (v.b : Int) (met1 q : Int) = ((min v.b (met1 q) : Nat) : Int) := by omega
              have e2 : (ws ++ [(⟨v.p, v.k + 1, v.b⟩ : V)]).set m ⟨v.p, v.k + 1, min v.b (met1 q)⟩ = ws ++ [⟨v.p, v.k + 1, min v.b (met1 q)⟩] := by rw [← HM.out.1]; exact set_last _ _ _
              rw [e2] at h2
              have hvw : v ∈ ws ++ [v] := by simp
              have hq4 := HQ.out.2.2.2
              have hI := HF.out.iv.replace (e := v) (e' := ⟨v.p, v.k + 1, min v.b (met1 q)⟩) rfl (Nat.min_le_left _ _) (Nat.le_succ _) HQ.out.2.2.1 (by
                show ∃ y ∈ opn, met1 y = min v.b (met1 q) ∧ _
                rcases Nat.le_total v.b (met1 q) with hh | hh
                · rw [Nat.min_eq_left hh]; exact (HF.out.iv.wb v hvw).2.2
                · rw [Nat.min_eq_right hh]; exact ⟨q, hqo, rfl, .edge HQ.out.1⟩) (fun y hy hny => by
                have hyq : y = q := by
                  have hy' : y ∈ (adj v.p).take (v.k + 1) := hy
                  rw [List.take_add_one, hq4] at hy'
                  rcases List.mem_append.1 hy' with h3 | h3
                  · exact absurd h3 hny
                  · simpa using h3
                rw [hyq]; exact ⟨HW0.out, fun _ => Nat.min_le_right _ _⟩)
              rw [e1]
              refine ⟨_, _, _, _, _, _, _, _, h2.drew.drew.drew.drew, hI, HF.out.mm, HF.out.mp, (((HF.out.bl.setCell (p := ⟨wg, m * 3 + 1, none⟩) hWF.out.2 _).setCell (p := ⟨wg, m * 3 + 2, none⟩) hWF.out.2 _).drew.drew.drew.drew), ?_⟩
              have h5 := hWF.out.1
              rw [wsum_snoc] at h5 ⊢
              show (n - now) * (U + 2) + (wsum adj ws + ((adj v.p).length - (v.k + 1) + 1)) ≤ gk - 1
              have h6 : (n - now) * (U + 2) + (wsum adj ws + ((adj v.p).length - (v.k + 1) + 1)) < gk := h5
              omega
          | some gq =>
            rw [hlow] at lq
            have lq2 : wr.cell? ⟨Y.L, q, none⟩ = some (.int .i64 (gq : Int)) := lq
            have hgq : ((gq : Int) == -1) = false := by simp
            have HLo : Hid (low q = some gq) := hlow
            clear lq hlow
            go_wp2
            go_roundg (gk - 1)
            case measure => have := hWF.out.1; omega
            case rel =>
              have hqo : q ∉ opn := fun e => by have := ((HF.out.iv.oi q).1 e).2; rw [HLo.out] at this; cases this
              refine ⟨_, _, _, _, _, _, _, _, HSW.out.drew.drew.drew, HI2.out HW0.out (fun e => absurd e hqo), HF.out.mm, HF.out.mp, (HF.out.bl.setCell (p := ⟨wg, m * 3 + 1, none⟩) hWF.out.2 _).drew.drew.drew, ?_⟩
              have h5 := hWF.out.1
              omega
end Go.Proofs.Ytkkpkcigflikkaa
