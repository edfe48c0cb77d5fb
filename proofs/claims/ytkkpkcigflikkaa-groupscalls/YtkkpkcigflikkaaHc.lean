/-
  Package groups: enter, by a contract.
-/
import Derived.Test.YtkkpkcigflikkaaHb
namespace Go.Proofs.Ytkkpkcigflikkaa
open Go.RowKit Go.Shelf Go.Maps G
set_option linter.unusedVariables false

/-- The way's append, in a drawn region. -/
theorem way_arm {ops : Array Oper} {oo : Oper} {a : Act} {K : Act → World → Prop} {Q : Exit → Act → World → Prop} {E : Prop} {V0 : World} {Y : Lay} {n : Nat} {adj : Nat → List Nat} {wv ov : Value} {met : Nat → Nat} {low : Nat → Option Nat} {grp : Nat → List Nat} {way : List V} {opn : List Nat} {now p : Nat}
    (H : Hid (SrAt V0 Y n adj wv ov met low grp way opn now)) (hl : way.length ≤ 20000)
    (s x : Operand) (hgd : oo.guard = none) (ho : oo.op = .call { callee := .builtin .append, args := #[s, x], argTypes := #[63, 63] }) (hs : a.eval s = wv) (hx : a.eval x = .slice (some ⟨V0.heap.size, 0, none⟩) 1 1)
    (h : ∀ o7 c7 w7, Hid (SrAt (w7.setCell ⟨Y.P, 4, none⟩ (.slice (some ⟨o7, 0, none⟩) (way.length + 1) c7)) Y n adj (.slice (some ⟨o7, 0, none⟩) (way.length + 1) c7) ov met low grp (way ++ [⟨p, 0, now⟩]) opn now ∧ Below Y.b V0 w7) → w7.cell? ⟨Y.P, 4, none⟩ = some wv → w7.frozen? ⟨Y.P, 4, none⟩ = false → Y.P < w7.heap.size → K (a.put oo.dst (.slice (some ⟨o7, 0, none⟩) (way.length + 1) c7)) w7) :
    if Region.wanted oo (yielded ops a.tmps) = true then Oper.wp Try.prog oo a (V0.alloc (.cells #[.int .i64 (p : Int), .int .i64 0, .int .i64 (now : Int)] 78)).drew K Q else E := by
  obtain ⟨i0, i1, i2, i3, i4⟩ := info_parts infoVisit
  have hh := H.out
  have hF := hh.Fs
  have hPF := hh.ok.PF
  have hbP := hh.ok.bP
  refine step_append_lies _ hgd s x 63 ho Y.F 78 i0 _ 3 24 Try.underlying63 i1 i2 i3 i4 rfl (by decide) wv way.length (way.flatMap vC) hs (hh.wr.alloc _).drew ⟨V0.heap.size, 0, none⟩ 1 1 (vC ⟨p, 0, now⟩) hx rfl (fun j u hu => by rw [Addr.add_lit, Nat.zero_add]; exact (Blk.new V0 #[.int .i64 (p : Int), .int .i64 0, .int .i64 (now : Int)] 78).drew.cell j u (by simpa [vC, nv] using hu)) (fun u hu => by simp only [vC, List.mem_cons, List.not_mem_nil, or_false] at hu; rcases hu with rfl | rfl | rfl <;> rfl) (by decide) (by unfold maxLen; omega) (by omega) (by simp; omega) (V0.heap.size + 1) (by simp) ?_
  intro o7 c7 w7 hown7 hgrow7 hat7 hlt7
  have hal := (hh.on (below1 V0 (.cells #[.int .i64 (p : Int), .int .i64 0, .int .i64 (now : Int)] 78))).drew
  have hne : wv.ownBlock ≠ some Y.P := fun e => by have := (owns_lt hh.wr e).1; omega
  have hX : Blk w7 Y.P (srC Y n now wv ov) 65 := hal.blk.same (grown_block hgrow7 (by simp; have := hh.blk.lt; omega) hne)
  refine h o7 c7 w7 ⟨hal.newWay hgrow7 (by simpa using hown7) (fun g hg => ?_), ?_⟩ (hX.cell 4 _ rfl) (hX.frozen 4) hX.lt
  · have e : o7 = g := by simpa [Value.ownBlock] using hg
    subst e
    rcases hat7 with h7 | h7
    · exact .inl h7
    · right; simp; omega
  · exact ((((Below.refl Y.b V0).alloc (by omega) _).drew).grown hgrow7 (by simp; omega) (fun g hg => by have := (owns_lt hh.wr hg).1; omega))
set_option maxHeartbeats 8000000 in
set_option maxRecDepth 100000 in
theorem enter_c (Y : Lay) (n : Nat) (adj : Nat → List Nat) (wv ov : Value) (met : Nat → Nat) (low : Nat → Option Nat) (grp : Nat → List Nat) (way : List V) (opn : List Nat) (now p : Nat) (hp : p < n) (hn : n ≤ 20000) (hnow : now ≤ 20000) (hw : way.length ≤ 20000) (hO : opn.length ≤ 20000) (w : World) (h : SrAt w Y n adj wv ov met low grp way opn now) :
    Calls Try.prog 43 #[.pointer (some ⟨Y.P, 0, none⟩), .int .i64 (p : Int)] w fun r W' => r = .returned (.tuple #[]) ∧ ∃ wv' ov', SrAt W' Y n adj wv' ov' (upd met p (now + 1)) low grp (way ++ [⟨p, 0, now + 1⟩]) (opn ++ [p]) (now + 1) ∧ Below Y.b w W' := by
  have hdep : Try.prog.follows Departure.mixedOrders = true := by kernel_rfl
  have HS : Hid (SrAt w Y n adj wv ov met low grp way opn now) := h
  obtain ⟨c0, c1, c2, c3, c4, c5, c6, f4, f5, f6, lP⟩ := h.cells
  have mf : w.frozen? ⟨Y.M, p, none⟩ = false := h.mt.frozen p
  have mc : w.cell? ⟨Y.M, p, none⟩ = some (.int .i64 (met p : Int)) := h.mt.cell hp
  have lM := h.mt.lt
  have hPM := h.ok.PM
  have hpn : (p : Int) < (n : Int) := by omega
  have hni : (n : Int) ≤ 20000 := by omega
  have hwi : (now : Int) ≤ 20000 := by omega
  have HL : Hid (way.length ≤ 20000 ∧ opn.length ≤ 20000 ∧ Y.b ≤ Y.P ∧ Y.b ≤ Y.M ∧ Y.b ≤ w.heap.size) := ⟨hw, hO, h.ok.bP, h.ok.bM, by have := h.ok.bP; omega⟩
  clear h hw hO hnow hn hp
  go_enter Try.func43, Try.ntmps43
  go_wp2
  go_region
  obtain ⟨m, hm⟩ : ∃ m : Nat, m = now + 1 := ⟨_, rfl⟩
  have hmi : (now : Int) + 1 = (m : Int) := by omega
  have hm2 : (m : Int) ≤ 20001 := by omega
  rw [hmi]
  have h1 : SrAt (((w.setCell ⟨Y.P, 6, none⟩ (.int .i64 (m : Int))).setCell ⟨Y.M, p, none⟩ (.int .i64 (m : Int))).drew) Y n adj wv ov (upd met p m) low grp way opn m := ((HS.out.setNow m).setMet p m).drew
  have hb1 : Below Y.b w (((w.setCell ⟨Y.P, 6, none⟩ (.int .i64 (m : Int))).setCell ⟨Y.M, p, none⟩ (.int .i64 (m : Int))).drew) := (((Below.refl Y.b w).setCell (p := ⟨Y.P, 6, none⟩) HL.out.2.2.1 _).setCell (p := ⟨Y.M, p, none⟩) HL.out.2.2.2.1 _).drew
  generalize (((w.setCell ⟨Y.P, 6, none⟩ (.int .i64 (m : Int))).setCell ⟨Y.M, p, none⟩ (.int .i64 (m : Int))).drew) = V0 at h1 hb1 ⊢
  have H1 : Hid (SrAt V0 Y n adj wv ov (upd met p m) low grp way opn m) := h1
  have HB1 : Hid (Below Y.b w V0) := hb1
  have HM : Hid (m = now + 1) := hm
  have HW : Hid (way.length ≤ 20000) := HL.out.1
  clear c0 c1 c2 c3 c4 c5 c6 f4 f5 f6 lP mf mc lM hPM hm hmi hwi HS hb1
  obtain ⟨c0, c1, c2, c3, c4, c5, c6, f4, f5, f6, lP⟩ := h1.cells
  clear h1
  obtain ⟨o0, k0, rfl, hk0, hk1⟩ := owns_form H1.out.wr
  go_upto_region 2 with fail
  go_region_law (first | (refine way_arm H1 HW.out _ _ (by rfl) (by rfl) (by rfl) (by rfl) ?_; intro o7 c7 w7 H7 c47 f47 l47) | (go_simp; go_wp2_with fail))
  all_goals (
    have h2 := H7.out.1
    have HB2 : Hid (Below Y.b w (w7.setCell ⟨Y.P, 4, none⟩ (.slice (some ⟨o7, 0, none⟩) (way.length + 1) c7))) := (HB1.out.trans H7.out.2).setCell (p := ⟨Y.P, 4, none⟩) HL.out.2.2.1 _
    generalize (w7.setCell ⟨Y.P, 4, none⟩ (.slice (some ⟨o7, 0, none⟩) (way.length + 1) c7)) = V2 at h2 HB2 ⊢
    have H2 : Hid (SrAt V2 Y n adj (.slice (some ⟨o7, 0, none⟩) (way.length + 1) c7) ov (upd met p m) low grp (way ++ [⟨p, 0, m⟩]) opn m) := h2
    clear c0 c1 c2 c3 c4 c5 c6 f4 f5 f6 lP H7 c47 f47 l47 H1
    obtain ⟨c0, c1, c2, c3, c4, c5, c6, f4, f5, f6, lP⟩ := h2.cells
    clear h2
    obtain ⟨o1, k1, rfl, hk2, hk3⟩ := owns_form H2.out.op
    obtain ⟨i0, hi0, hz0, hz1, hz2⟩ := info_parts infoInt
    go_wp2_with (at_builtin; refine wpList_append_lies _ rfl _ _ 30 rfl Y.F 3 i0 (.int .i64 0) 1 8 Try.underlying30 hi0 hz0 hz1 hz2 rfl (by decide) _ _ _ rfl (H2.out.op.alloc _) ⟨V2.heap.size, 0, none⟩ 1 1 [.int .i64 (p : Int)] rfl rfl (cell_one_new _ _ _) (by simp [Value.oneCell']) (by decide) (by unfold maxLen; have := HL.out; omega) (by have := HL.out; omega) (by simp; have := H2.out.Fs; omega) (V2.heap.size + 1) (by simp) ?_; intro o8 c8 w8 hown8 hgrow8 hat8 hlt8; have hal : Hid (SrAt (V2.alloc (.cells #[.int .i64 (p : Int)] 3)) Y n adj (.slice (some ⟨o7, 0, none⟩) (way.length + 1) c7) (.slice o1 opn.length k1) (upd met p m) low grp (way ++ [⟨p, 0, m⟩]) opn m) := H2.out.on (below1 V2 _); have H8 : Hid (SrAt (w8.setCell ⟨Y.P, 5, none⟩ (.slice (some ⟨o8, 0, none⟩) (opn.length + 1) c8)) Y n adj (.slice (some ⟨o7, 0, none⟩) (way.length + 1) c7) (.slice (some ⟨o8, 0, none⟩) (opn.length + 1) c8) (upd met p m) low grp (way ++ [⟨p, 0, m⟩]) (opn ++ [p]) m) := hal.out.newOpn hgrow8 (by simpa [nv] using hown8) (fun g hg => by (have e : o8 = g := by simpa [Value.ownBlock] using hg); subst e; rcases hat8 with h7 | h7; exact .inl h7; right; simp; omega); have HB8 : Hid (Below Y.b w w8) := HB2.out.trans (((Below.refl Y.b V2).alloc (by have := H2.out.Fs; have := H2.out.ok.PF; have := HL.out; omega) _).grown hgrow8 (by simp; have := H2.out.Fs; have := H2.out.ok.PF; have := HL.out; omega) (fun g hg => by have := (owns_lt H2.out.op hg).1; have := H2.out.ok.PF; have := HL.out; omega)); have hX : Blk w8 Y.P (srC Y n m (.slice (some ⟨o7, 0, none⟩) (way.length + 1) c7) (.slice o1 opn.length k1)) 65 := hal.out.blk.same (grown_block hgrow8 (by simp; omega) (fun e => by have := (owns_lt H2.out.op e).1; have := H2.out.ok.PF; omega)); have x5 := hX.cell 5 _ rfl; have y5 := hX.frozen 5; have z5 := hX.lt; clear hown8 hgrow8 hat8 hlt8 hal hX c0 c1 c2 c3 c4 c5 c6 f4 f5 f6 lP)
    go_end0
    have e := HM.out
    subst e
    exact ⟨rfl, _, _, H8.out, HB8.out.setCell (p := ⟨Y.P, 5, none⟩) HL.out.2.2.1 _⟩)
end Go.Proofs.Ytkkpkcigflikkaa
