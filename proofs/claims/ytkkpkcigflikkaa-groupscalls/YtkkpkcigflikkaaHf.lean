/-
  Package groups: leave, by a contract.
-/
import Derived.Test.YtkkpkcigflikkaaHc
import Derived.Test.YtkkpkcigflikkaaHe
namespace Go.Proofs.Ytkkpkcigflikkaa
open Go.RowKit Go.Shelf Go.Maps G
set_option linter.unusedVariables false

/-- How much is left to do on the way. -/
def wsum (adj : Nat → List Nat) (way : List V) : Nat := (way.map (fun e => (adj e.p).length - e.k + 1)).sum
theorem wsum_snoc (adj : Nat → List Nat) (ws : List V) (v : V) : wsum adj (ws ++ [v]) = wsum adj ws + ((adj v.p).length - v.k + 1) := by
  simp [wsum, List.sum_append]
/-- What leave leaves. -/
def LvPost (w : World) (Y : Lay) (n : Nat) (adj : Nat → List Nat) (met : Nat → Nat) (ws : List V) (now : Nat) (W' : World) : Prop :=
  ∃ wv ov low grp way opn, SrAt W' Y n adj wv ov met low grp way opn now ∧ Inv n adj met low grp way opn now ∧ wsum adj way = wsum adj ws ∧ Below Y.b w W'
theorem set_last (ws : List V) (u u' : V) : (ws ++ [u]).set ws.length u' = ws ++ [u'] := by
  rw [List.set_append_right _ _ (Nat.le_refl _), Nat.sub_self]; rfl
set_option maxHeartbeats 8000000 in
set_option maxRecDepth 100000 in
theorem leave_c (Y : Lay) (n : Nat) (adj : Nat → List Nat) (wv ov : Value) (met : Nat → Nat) (low : Nat → Option Nat) (grp : Nat → List Nat) (ws : List V) (v : V) (opn : List Nat) (now : Nat) (hn : n ≤ 20000) (hk : v.k = (adj v.p).length) (w : World) (h : SrAt w Y n adj wv ov met low grp (ws ++ [v]) opn now) (hI : Inv n adj met low grp (ws ++ [v]) opn now) :
    Calls Try.prog 44 #[.pointer (some ⟨Y.P, 0, none⟩)] w fun r W' => r = .returned (.tuple #[]) ∧ LvPost w Y n adj met ws now W' := by
  have hdep : Try.prog.follows Departure.mixedOrders = true := by kernel_rfl
  obtain ⟨wg, cap, hwv, hFg, hwg⟩ := h.wr.form (by rw [List.length_append]; simp)
  subst hwv
  have hmax : ∀ x, met x ≤ 20000 := fun x => by have := hI.ml x; have := hI.now_le; omega
  have hvp : v.p < n := hI.mn _ (hI.opn_met (hI.wo v (by simp)))
  have hbm : v.b ≤ met v.p := (hI.wb v (by simp)).2.1
  have hwl := hI.way_le
  obtain ⟨m, hm⟩ : ∃ m, ws.length = m := ⟨_, rfl⟩
  have hl : (ws ++ [v]).length = m + 1 := by simp [hm]
  have hvis := h.visit (i := m) (by omega)
  have hget : (ws ++ [v])[m]'(by omega) = v := by subst hm; simp
  rw [hget] at hvis
  obtain ⟨v0, v1, v2, vf, vl, vcap, vcm⟩ := hvis
  have HI : Hid (Inv n adj met low grp (ws ++ [v]) opn now) := hI
  have HS : Hid (SrAt w Y n adj (.slice (some ⟨wg, 0, none⟩) (ws ++ [v]).length cap) ov met low grp (ws ++ [v]) opn now) := h
  have HW : Hid (SrAt (w.setCell ⟨Y.P, 4, none⟩ (.slice (some ⟨wg, 0, none⟩) m cap)) Y n adj (.slice (some ⟨wg, 0, none⟩) m cap) ov met low grp ws opn now) := by
    have h1 := h.cutWay
    rw [hm] at h1; exact h1
  rw [hl] at h vcap
  obtain ⟨c0, c1, c2, c3, c4, c5, c6, f4, f5, f6, lP⟩ := h.cells
  have mc : w.cell? ⟨Y.M, v.p, none⟩ = some (.int .i64 (met v.p : Int)) := h.mt.cell hvp
  have lM := h.mt.lt
  have hPM := h.ok.PM
  have hPwg : Y.P ≠ wg := by have := h.ok.PF; omega
  have hvi : (v.p : Int) < (n : Int) := by omega
  have hni : (n : Int) ≤ 20000 := by omega
  have hmi : (m : Int) ≤ 20000 := by omega
  have hci : (m : Int) + 1 ≤ (cap : Int) := by omega
  have hcm : (cap : Int) ≤ 9223372036854775807 := by omega
  have HL : Hid (ws.length = m ∧ v.k = (adj v.p).length ∧ v.b ≤ met v.p ∧ n ≤ 20000 ∧ m ≤ 20000 ∧ Y.b ≤ Y.P ∧ Y.b ≤ w.heap.size ∧ (∀ x, met x ≤ 20000)) := ⟨hm, hk, hbm, hn, by omega, h.ok.bP, by have := h.ok.bP; omega, hmax⟩
  have hbi : (v.b : Int) ≤ 20000 := by have := hmax v.p; omega
  have hmti : (met v.p : Int) ≤ 20000 := by have := hmax v.p; omega
  clear h hI hget hl hm hk hbm hn hwl hmax vcap vcm hFg hvp
  go_enter Try.func44, Try.ntmps44
  go_wp2
  go_region
  have h0 : SrAt (((w.setCell ⟨Y.P, 4, none⟩ (.slice (some ⟨wg, 0, none⟩) m cap)).alloc (.cells #[.int .i64 (v.p : Int), .int .i64 (v.k : Int), .int .i64 (v.b : Int)] 78)).drew) Y n adj (.slice (some ⟨wg, 0, none⟩) m cap) ov met low grp ws opn now := (HW.out.on (below1 _ _)).drew
  have hb0 : Below Y.b w (((w.setCell ⟨Y.P, 4, none⟩ (.slice (some ⟨wg, 0, none⟩) m cap)).alloc (.cells #[.int .i64 (v.p : Int), .int .i64 (v.k : Int), .int .i64 (v.b : Int)] 78)).drew) := (((Below.refl Y.b w).setCell (p := ⟨Y.P, 4, none⟩) HL.out.2.2.2.2.2.1 _).alloc (by rw [size_set]; exact HL.out.2.2.2.2.2.2.1) _).drew
  have hk0 : Blk (((w.setCell ⟨Y.P, 4, none⟩ (.slice (some ⟨wg, 0, none⟩) m cap)).alloc (.cells #[.int .i64 (v.p : Int), .int .i64 (v.k : Int), .int .i64 (v.b : Int)] 78)).drew) w.heap.size #[.int .i64 (v.p : Int), .int .i64 (v.k : Int), .int .i64 (v.b : Int)] 78 := by
    have := Blk.new (w.setCell ⟨Y.P, 4, none⟩ (.slice (some ⟨wg, 0, none⟩) m cap)) #[.int .i64 (v.p : Int), .int .i64 (v.k : Int), .int .i64 (v.b : Int)] 78
    rw [size_set] at this
    exact this.drew
  generalize (((w.setCell ⟨Y.P, 4, none⟩ (.slice (some ⟨wg, 0, none⟩) m cap)).alloc (.cells #[.int .i64 (v.p : Int), .int .i64 (v.k : Int), .int .i64 (v.b : Int)] 78)).drew) = V0 at h0 hb0 hk0 ⊢
  have H0 : Hid (SrAt V0 Y n adj (.slice (some ⟨wg, 0, none⟩) m cap) ov met low grp ws opn now) := h0
  have HB0 : Hid (Below Y.b w V0) := hb0
  have l0 := hk0.cell 0 _ rfl
  have l2 := hk0.cell 2 _ rfl
  have ll := hk0.lt
  clear c0 c1 c2 c3 c4 c5 c6 f4 f5 f6 lP mc lM v0 v1 v2 vf vl hb0 hk0 HW HS
  obtain ⟨c0, c1, c2, c3, c4, c5, c6, f4, f5, f6, lP⟩ := h0.cells
  clear h0
  by_cases he : v.b = met v.p
  · have het : ((v.b : Int) == (met v.p : Int)) = true := by rw [he]; simp
    have hmem : v.p ∈ opn := HI.out.wo v (by simp)
    obtain ⟨os, xs, hsp⟩ := List.append_of_mem hmem
    subst hsp
    have hGC := group_c Y n adj (.slice (some ⟨wg, 0, none⟩) m cap) ov met low grp ws os xs now v.p HL.out.2.2.2.1 (fun x hx => HI.out.mn x (HI.out.opn_met (List.mem_append_right _ hx))) (by
      have := HI.out.op
      rw [List.pairwise_append] at this
      exact this.2.1.imp (fun {a b} hab e => by subst e; omega)) (by have := HI.out.opn_le; have := HL.out.2.2.2.1; omega) V0 H0.out
    have HGC : Hid (Calls Try.prog 49 #[.pointer (some ⟨Y.P, 0, none⟩), .int .i64 (v.p : Int)] V0 fun r W' => r = .returned (.tuple #[]) ∧ ∃ m1 L ov', (m1 :: L).Pairwise (· < ·) ∧ (∀ x, x ∈ m1 :: L ↔ x ∈ v.p :: xs) ∧ SrAt W' Y n adj (.slice (some ⟨wg, 0, none⟩) m cap) ov' met (fun x => if x ∈ m1 :: L then some m1 else low x) (upd grp m1 (m1 :: L)) ws os now ∧ Below Y.b V0 W') := hGC
    have HE : Hid (v.b = met v.p) := he
    clear he hGC hmem
    go_wp2_with (go_at_call 49; fail)
    refine HGC.out.mono ?_
    rintro e W1 ⟨rfl, m1, L, ov', p1, p2, p3, p4⟩
    have HP : Hid (LvPost w Y n adj met ws now W1) := ⟨_, _, _, _, _, _, p3, HI.out.group HL.out.2.1 HE.out p1 p2, rfl, HB0.out.trans p4⟩
    clear p1 p2 p3 p4 HGC
    go_wp2
    exact bodyPost_ret (results_none rfl _ _ _) rfl ⟨rfl, HP.out⟩
  · have hef : ((v.b : Int) == (met v.p : Int)) = false := by simp; omega
    have hlt : v.b < met v.p := by have := HL.out.2.2.1; omega
    obtain ⟨ws', u, hws⟩ : ∃ ws' u, ws = ws' ++ [u] := ⟨ws.dropLast, ws.getLast (HI.out.second hlt), (List.dropLast_concat_getLast _).symm⟩
    subst hws
    obtain ⟨m', hm'⟩ : ∃ m', ws'.length = m' := ⟨_, rfl⟩
    have hmm : m = m' + 1 := by have := HL.out.1; rw [List.length_append, hm'] at this; simp at this; omega
    have hl2 : (ws' ++ [u]).length = m := HL.out.1
    have h2 := H0.out
    rw [← hl2] at h2
    have hvis := h2.visit (i := m') (by omega)
    have hget : (ws' ++ [u])[m']'(by omega) = u := by subst hm'; simp
    rw [hget] at hvis
    obtain ⟨u0, u1, u2, uf, ul, ucap, ucm⟩ := hvis
    have uf2 := uf (m' * 3 + 2)
    have hub : u.b ≤ met u.p := (HI.out.wb u (by simp)).2.1
    have hubi : (u.b : Int) ≤ 20000 := by have := HL.out.2.2.2.2.2.2.2 u.p; omega
    have hm'i : (m : Int) - 1 = (m' : Int) := by omega
    have hwr : IntKind.i64.wrap ((m : Int) - 1) = (m' : Int) := by rw [IntKind.wrap_i64]; omega
    have hm'l : (m' : Int) < (m : Int) := by omega
    have HM : Hid (m = m' + 1 ∧ v.b < met v.p ∧ ws'.length = m') := ⟨hmm, hlt, hm'⟩
    clear he hlt h2 hget hl2 hm' hmm hub uf ucap ucm
    go_wp2
    go_region
    all_goals (
      go_end0
      refine ⟨rfl, ?_⟩
      obtain ⟨hmm, hlt, hm'⟩ := HM.out
      have hl2 : (ws' ++ [u]).length = m := HL.out.1
      have h2 := H0.out
      rw [← hl2] at h2
      have e1 : min (u.b : Int) (v.b : Int) = ((min u.b v.b : Nat) : Int) := by omega
      have h3 := (h2.setWay m' 2 ⟨u.p, u.k, min u.b v.b⟩ (.int .i64 ((min u.b v.b : Nat) : Int)) (by omega) (by decide) (by subst hm'; simp [vC, nv])).drew
      rw [e1]
      have e2 : (ws' ++ [u]).set m' ⟨u.p, u.k, min u.b v.b⟩ = ws' ++ [⟨u.p, u.k, min u.b v.b⟩] := by rw [← hm']; exact set_last _ _ _
      rw [e2] at h3
      have hI : Inv n adj met low grp (ws' ++ [u, v]) opn now := by simpa using HI.out
      obtain ⟨q1, q2, q3⟩ := hI.wb u (by simp)
      obtain ⟨r1, r2, y, r3, r4, r5⟩ := hI.wb v (by simp)
      have huv : met u.p < met v.p := by
        have := hI.wp
        rw [List.pairwise_append, List.pairwise_cons] at this
        exact this.2.1.1 v (by simp)
      have hrv : Rch adj u.p v.p := hI.wr u (by simp) v.p (hI.wo v (by simp)) (Nat.le_of_lt huv)
      have hI2 : Inv n adj met low grp (ws' ++ [⟨u.p, u.k, min u.b v.b⟩, v]) opn now := hI.replace (e := u) (e' := ⟨u.p, u.k, min u.b v.b⟩) rfl (Nat.min_le_left _ _) (Nat.le_refl _) q1 (by
        rcases Nat.le_total u.b v.b with hh | hh
        · show ∃ y ∈ opn, met y = min u.b v.b ∧ _
          rw [Nat.min_eq_left hh]; exact q3
        · show ∃ y ∈ opn, met y = min u.b v.b ∧ _
          rw [Nat.min_eq_right hh]; exact ⟨y, r3, r4, hrv.trans r5⟩) (fun z hz hz2 => absurd hz hz2)
      have hI3 := hI2.pop (u := ⟨u.p, u.k, min u.b v.b⟩) HL.out.2.1 hlt (Nat.min_le_right _ _)
      refine ⟨_, _, _, _, _, _, h3, hI3, ?_, (HB0.out.setCell (p := ⟨wg, m' * 3 + 2, none⟩) (by show Y.b ≤ wg; have := H0.out.ok.bP; have := H0.out.ok.PF; have h9 : Y.F ≤ wg := (owns_lt H0.out.wr rfl).1; omega) _).drew⟩
      rw [wsum_snoc, wsum_snoc])
end Go.Proofs.Ytkkpkcigflikkaa
