/-
  A walk in memory (stage 16): a part is gone into.
-/
import Derived.Test.YtjmpjfggbhongaaDoorUf
namespace Go.Proofs.YtjmpjfggbhongaaDoor
open Go.RowKit Go.Shelf Go.Maps
set_option linter.unusedVariables false

theorem pL_cons (q : Nat × Option Nat) (l : List (Nat × Option Nat)) : pL (q :: l) = pL l ++ pC q := by
  unfold pL; rw [List.reverse_cons, List.flatMap_append]; simp
/-- The parts' append, in a drawn region. -/
theorem part_arm {ops : Array Oper} {oo : Oper} {a : Act} {K : Act → World → Prop} {Q : Exit → Act → World → Prop} {E : Prop} {V0 : World} {F P : Nat} {s : WS} {bl : Nat → Nat} {o : Option Addr} {n cap mt : Nat} {sv av : Value} {m c : Nat}
    (H : Hid (WkS V0 F P s bl (.slice o s.parts.length cap) sv av m c)) (hn : s.parts.length = n) (hmt : s.met = mt) (hl : n ≤ 3000000)
    (sl x : Operand) (hgd : oo.guard = none) (ho : oo.op = .call { callee := .builtin .append, args := #[sl, x], argTypes := #[69, 69] }) (hs : a.eval sl = .slice o n cap) (hx : a.eval x = .slice (some ⟨V0.heap.size, 0, none⟩) 1 1)
    (h : ∀ o7 c7 w7, Hid (WkS (w7.setCell ⟨P, 0, none⟩ (.slice (some ⟨o7, 0, none⟩) (n + 1) c7)) F P { s with parts := (s.met, none) :: s.parts } bl (.slice (some ⟨o7, 0, none⟩) (n + 1) c7) sv av m c ∧ Below F V0 w7) → w7.cell? ⟨P, 0, none⟩ = some (.slice o n cap) → w7.frozen? ⟨P, 0, none⟩ = false → P < w7.heap.size → K (a.put oo.dst (.slice (some ⟨o7, 0, none⟩) (n + 1) c7)) w7) :
    if Region.wanted oo (yielded ops a.tmps) = true then Oper.wp Tryd.prog oo a (V0.alloc (.cells #[.int .i64 (mt : Int), .int .i64 9223372036854775807] 116)).drew K Q else E := by
  subst hn hmt
  obtain ⟨i0, i1, i2, i3, i4⟩ := info_parts16 infoPt
  have hh := H.out
  have hal := (hh.on (below1 V0 (.cells #[.int .i64 (s.met : Int), .int .i64 9223372036854775807] 116))).drew
  have hsz : (V0.alloc (.cells #[.int .i64 (s.met : Int), .int .i64 9223372036854775807] 116)).drew.heap.size = V0.heap.size + 1 := Array.size_push _
  refine step_append_lies _ hgd sl x 69 ho F 116 i0 _ 2 16 Tryd.underlying69 i1 i2 i3 i4 rfl (by decide) (.slice o s.parts.length cap) s.parts.length (pL s.parts) hs hal.pr ⟨V0.heap.size, 0, none⟩ 1 1 (pC (s.met, none)) hx rfl (fun j u hu => by rw [Addr.add_lit, Nat.zero_add]; exact (Blk.new V0 #[.int .i64 (s.met : Int), .int .i64 9223372036854775807] 116).cell j u (by simpa [pC, aV] using hu)) (fun u hu => by simp only [pC, List.mem_cons, List.not_mem_nil, or_false] at hu; rcases hu with rfl | rfl <;> rfl) (by decide) (by unfold maxLen; omega) (by omega) hal.FW (V0.heap.size + 1) hsz ?_
  intro o7 c7 w7 hown7 hgrow7 hat7 hlt7
  have hX : Blk w7 P #[.slice o s.parts.length cap, .int .i64 (s.lam : Int), .int .i64 (s.met : Int), .map (some m), sv, av] 73 := blk_same hal.blk (grown_block16 hgrow7 hal.blk.lt (fun e => neT (hal.typv e) hal.tyP (by decide) rfl))
  have hs7 := hgrow7.size
  have hown2 : w7.ownsRow F 116 2 (.slice (some ⟨o7, 0, none⟩) (s.parts.length + 1) c7) ((s.met, none) :: s.parts).length (pL ((s.met, none) :: s.parts)) := by
    rw [pL_cons]; exact hown7
  have hP7 : o7 ≠ P := neT (tyOwn hown7 (g := o7) rfl) (tyBlk hX) (by decide)
  refine h o7 c7 w7 ⟨?_, ?_⟩ (hX.cell 0 _ rfl) (hX.frozen 0) hX.lt
  · have hbs := But.set P w7 0 (.slice (some ⟨o7, 0, none⟩) (s.parts.length + 1) c7)
    refine hal.setParts (W' := w7.setCell ⟨P, 0, none⟩ (.slice (some ⟨o7, 0, none⟩) (s.parts.length + 1) c7)) (Nat.le_trans hs7 hbs.size) (fun g h1 h2 h3 => (hbs.block g (Nat.lt_of_lt_of_le h1 hs7) h2).trans (grown_block16 hgrow7 h1 h3)) (hX.set 0 _) ?_
    refine owns_same16 hown2 (fun g hg => ?_)
    cases hg
    exact hbs.block o7 hlt7 hP7
  · exact (((Below.refl F V0).alloc hh.FW _).drew).grown hgrow7 (by rw [hsz]; have := hh.FW; omega) (fun g hg => (owns_lt hh.pr hg).1)
set_option maxHeartbeats 8000000 in
set_option maxRecDepth 100000 in
theorem wkEnterLam_c (F P B d : Nat) (t : Tr (d + 1)) (g off : Nat) (hls : ∀ x ∈ bndM t, x.size ≤ maxLen) (s : WS) (w : World) (h : WkAt w F P s) (hE : ExAt w B (d + 1) t g off) (hB : B ≤ F) (ht : tot s + 2 + 4 * (bndM t).length ≤ 3000000) (hk : TrN.kind t = 5) :
    Calls Tryd.prog 47 #[.pointer (some ⟨P, 0, none⟩), .pointer (some ⟨g, off, none⟩)] w fun e w' => e = .returned (.tuple #[]) ∧ WkAt w' F P (bindsS s.scope.length (bndM t) (pushS (TrN.kind t) s)) ∧ Below F w w' := by
  obtain ⟨bl, pv, sv, av, m, c, h⟩ := h
  obtain ⟨o, cap, rfl, hn, hcap⟩ := owns_form h.pr
  obtain ⟨os, caps, rfl, hns, hcaps⟩ := owns_form h.sr
  have HS : Hid (WkS w F P s bl (.slice o s.parts.length cap) (.slice os s.scope.length caps) av m c) := h
  obtain ⟨c0, c1, c2, c3, c4, c5, f0, f1, f2, f4, f5⟩ := h.blk.all6
  have lP := h.blk.lt
  have hE0 := hE
  obtain ⟨hg, e0, -, -, ⟨o3, k3, e3, t3⟩, ⟨o4, k4, e4, t4⟩, -, -⟩ := hE
  have lg : g < w.heap.size := by have := h.FW; omega
  have hgP : g ≠ P := by have := h.FP; omega
  obtain ⟨n, hnn⟩ : ∃ n, s.parts.length = n := ⟨_, rfl⟩
  obtain ⟨mt, hmt⟩ : ∃ mt, s.met = mt := ⟨_, rfl⟩
  obtain ⟨lm, hlm⟩ : ∃ lm, s.lam = lm := ⟨_, rfl⟩
  obtain ⟨ns, hnsc⟩ : ∃ ns, s.scope.length = ns := ⟨_, rfl⟩
  have hb1 : tot s = s.met + s.puts + s.bs.length + s.asked.length + s.scope.length + s.parts.length + s.lam := rfl
  have hlen : (bndM t).length = (TrN.params t).length + (TrN.binds t).length := by simp [bndM]
  have hpush := tot_push (TrN.kind t) s
  have HX : Hid (s.parts.length = n ∧ s.met = mt ∧ n ≤ 3000000 ∧ F ≤ P ∧ g < F ∧ s.lam = lm ∧ s.scope.length = ns) := ⟨hnn, hmt, by omega, h.FP, by omega, hlm, hnsc⟩
  obtain ⟨sP, hsP⟩ : ∃ sP, pushS (TrN.kind t) s = sP := ⟨_, rfl⟩
  have HSP : Hid (pushS (TrN.kind t) s = sP) := hsP
  rw [hsP] at hpush ⊢
  rw [hnsc]
  obtain ⟨l2, hl2⟩ : ∃ l2, (TrN.binds t).map Prod.fst = l2 := ⟨_, rfl⟩
  obtain ⟨nb, hnb⟩ : ∃ nb, (TrN.binds t).length = nb := ⟨_, rfl⟩
  have hl2n : l2.length = nb := by rw [← hl2, List.length_map, hnb]
  have hbnd : bndM t = TrN.params t ++ l2 := by rw [← hl2]; rfl
  have HA1 : Hid (∀ W : World, WkAt W F P sP → Below F w W → Calls Tryd.prog 67 #[.pointer (some ⟨P, 0, none⟩), .slice o3 (TrN.params t).length k3, .int .i64 (ns : Int)] W fun e w' => e = .returned (.tuple #[]) ∧ WkAt w' F P (bindsS ns ((l2).take 0) (bindsS ns (TrN.params t) sP)) ∧ Below F w w') := by
    intro W hW hb
    refine (wkBindAll_c F P B (TrN.params t) (fun x hx => hls x (by rw [hbnd]; exact List.mem_append_left _ hx)) o3 k3 sP ns W hW (t3.same (fun g off hg => hb.cell (p := ⟨g, off, none⟩) (by show g < F; omega))) hB (by have := hb.size; have := h.FW; omega) (by omega) (by omega)).mono ?_
    rintro e w' ⟨rfl, q1, q2⟩
    exact ⟨rfl, q1, hb.trans q2⟩
  have HA2 : Hid (∀ k (hk : k < l2.length), ∃ g4 off4, o4 = some ⟨g4, off4, none⟩ ∧ g4 < w.heap.size ∧ ∀ W : World, Below F w W → W.cell? ⟨g4, off4 + k * 8, none⟩ = some (.string l2[k])) := by
    intro k hk
    have hk' : k < (TrN.binds t).length := by omega
    have hF := h.FW
    rcases t4 with h9 | ⟨g4, off4, e, hg4, h9⟩
    · rw [h9] at hk'; cases hk'
    · refine ⟨g4, off4, e, by omega, fun W hW => ?_⟩
      rw [hW.cell (p := ⟨g4, off4 + k * 8, none⟩) (by show g4 < F; omega)]
      have := (h9 k hk').1
      rw [this]; congr 2
      simp [← hl2]
  have HC2 : Hid (∀ k (hk : k < l2.length), ∀ W : World, WkAt W F P (bindsS ns (l2.take k) (bindsS ns (TrN.params t) sP)) → Calls Tryd.prog 40 #[.pointer (some ⟨P, 0, none⟩), .string l2[k], .int .i64 (ns : Int)] W fun e w' => e = .returned (.tuple #[]) ∧ WkAt w' F P (bindsS ns (l2.take (k + 1)) (bindsS ns (TrN.params t) sP)) ∧ Below F W w') := by
    intro k hk W hW
    have q1 := tot_binds ns (l2.take k) (bindsS ns (TrN.params t) sP)
    have q2 : (l2.take k).length ≤ l2.length := by simp; omega
    have q3 := tot_binds ns (TrN.params t) sP
    have := wkBind_c F P (bindsS ns (l2.take k) (bindsS ns (TrN.params t) sP)) ns l2[k] (hls _ (by rw [hbnd]; exact List.mem_append_right _ (List.getElem_mem hk))) W hW (by omega) (by omega)
    rw [← binds_snoc ns l2 k hk] at this
    exact this
  have HN2 : Hid (l2.length = nb) := hl2n
  have HBd : Hid (bindsS ns (bndM t) sP = bindsS ns l2 (bindsS ns (TrN.params t) sP)) := by
    have e : bindsS ns (bndM t) sP = bindsS ns l2 (bindsS ns (TrN.params t) sP) := by rw [hbnd]; unfold bindsS; rw [List.foldl_append]
    exact e
  rw [hnn] at c0
  rw [hmt] at c2
  rw [hlm] at c1
  rw [hnsc] at c4
  rw [hnb] at e4
  have hlamI : (lm : Int) ≤ 3000000 := by omega
  have hnbI : (nb : Int) ≤ 3000000 := by omega
  have HK : Hid (TrN.kind t = 5) := hk
  rw [hk] at e0
  clear hk
  clear h hn hcap hns hcaps hnn hmt hlm hnsc hb1 ht hE0 hls hB t3 t4 hlen hpush hsP hl2 hnb hl2n hbnd hg
  go_enter Tryd.func47, Tryd.ntmps47
  go_upto_region 0 with fail
  go_region_law (first | (refine part_arm HS HX.out.1 HX.out.2.1 HX.out.2.2.1 _ _ (by rfl) (by rfl) (by rfl) (by rfl) ?_; intro o7 c7 w7 H7 c07 f07 l07) | (go_simp; go_wp2_with fail))
  all_goals (
    obtain ⟨V, hV⟩ : ∃ V, w7.setCell ⟨P, 0, none⟩ (.slice (some ⟨o7, 0, none⟩) (n + 1) c7) = V := ⟨_, rfl⟩
    have hS1 := H7.out.1
    have hB1 : Below F w V := by rw [← hV]; exact H7.out.2.setCell (p := ⟨P, 0, none⟩) HX.out.2.2.2.1 _
    rw [hV] at hS1 ⊢
    have H1 : Hid (WkS V F P { s with parts := (s.met, none) :: s.parts } bl (.slice (some ⟨o7, 0, none⟩) (n + 1) c7) (.slice os s.scope.length caps) av m c) := hS1
    have HB1 : Hid (Below F w V) := hB1
    have cc : ∀ k, V.cell? ⟨g, k, none⟩ = w.cell? ⟨g, k, none⟩ := fun k => hB1.cell (p := ⟨g, k, none⟩) HX.out.2.2.2.2.1
    rw [← cc] at e0 e3 e4
    have lgV : g < V.heap.size := Nat.lt_of_lt_of_le lg hB1.size
    clear c0 c1 c2 c3 c4 c5 f0 f1 f2 f4 f5 lP H7 c07 f07 l07 hV hB1 HS cc lg
    obtain ⟨c0, c1, c2, c3, c4, c5, f0, f1, f2, f4, f5⟩ := H1.out.blk.all6
    have lP := H1.out.blk.lt
    clear hS1
    simp only [HX.out.2.2.2.2.2.1] at c1
    rw [HX.out.2.2.2.2.2.2] at c4
    go_upto_region 3 with fail
    have H2 : Hid (WkAt (V.setCell ⟨P, 1, none⟩ (.int .i64 ((lm : Int) + 1))) F P sP ∧ Below F w (V.setCell ⟨P, 1, none⟩ (.int .i64 ((lm : Int) + 1)))) := by
      have e1 : ((lm : Int) + 1) = ((s.lam + 1 : Nat) : Int) := by have := HX.out; omega
      have hbs := But.set P V 1 (.int .i64 ((lm : Int) + 1))
      have hx := H1.out.setP (W' := V.setCell ⟨P, 1, none⟩ (.int .i64 ((lm : Int) + 1))) hbs.size (fun g h1 h2 => hbs.block g h1 h2) (s.lam + 1) s.met (by rw [← e1]; exact H1.out.blk.set 1 _)
      have e2 : sP = { s with parts := (s.met, none) :: s.parts, lam := s.lam + 1 } := by rw [← HSP.out]; unfold pushS; rw [if_pos HK.out]
      exact ⟨⟨bl, _, _, av, m, c, by rw [e2]; exact hx⟩, HB1.out.setCell (p := ⟨P, 1, none⟩) HX.out.2.2.2.1 _⟩
    go_wp2_with (go_at_call 67; fail)
    refine (HA1.out _ H2.out.1 H2.out.2).mono ?_
    rintro e w2 ⟨rfl, q1, q2⟩
    have HI : Hid (WkAt w2 F P (bindsS ns (l2.take 0) (bindsS ns (TrN.params t) sP)) ∧ Below F w w2) := ⟨q1, q2⟩
    have cc : ∀ k, w2.cell? ⟨g, k, none⟩ = w.cell? ⟨g, k, none⟩ := fun k => q2.cell (p := ⟨g, k, none⟩) HX.out.2.2.2.2.1
    have cc1 : ∀ k, V.cell? ⟨g, k, none⟩ = w.cell? ⟨g, k, none⟩ := fun k => HB1.out.cell (p := ⟨g, k, none⟩) HX.out.2.2.2.2.1
    have e4w : w.cell? ⟨g, off + 4, none⟩ = some (.slice o4 nb k4) := by rw [← cc1]; exact e4
    have e42 : w2.cell? ⟨g, off + 4, none⟩ = some (.slice o4 nb k4) := by rw [cc]; exact e4w
    have lg2 : g < w2.heap.size := Nat.lt_of_lt_of_le (show g < w.heap.size by have := HX.out; have := H1.out.FW; rcases Nat.lt_or_ge g w.heap.size with h | h; exact h; simp [World.cell?, Array.getElem?_eq_none h] at e4w) q2.size
    have HE4 : Hid (w.cell? ⟨g, off + 4, none⟩ = some (.slice o4 nb k4) ∧ g < w.heap.size) := ⟨e4w, by rcases Nat.lt_or_ge g w.heap.size with h | h; exact h; simp [World.cell?, Array.getElem?_eq_none h] at e4w⟩
    clear q1 q2 cc cc1 e4w e0 e3 e4 c0 c1 c2 c3 c4 c5 f0 f1 f2 f4 f5 lP H1 HB1 HA1 H2 lgV
    go_wp2
    clear e42 lg2
    go_loopw [49] (fun i wr => ∃ k : Nat, k ≤ nb ∧ i = .int .i64 k ∧ Hid (WkAt wr F P (bindsS ns (l2.take k) (bindsS ns (TrN.params t) sP)) ∧ Below F w wr)) (fun i _ => nb - (intOf i).toNat)
    case atStart => exact ⟨0, Nat.zero_le _, rfl, HI⟩
    case round =>
      obtain ⟨k, hk, rfl, hS⟩ := hrel
      clear HI
      by_cases hkn : k < nb
      · have hkl : k < l2.length := by rw [HN2.out]; exact hkn
        obtain ⟨g4, off4, rfl, hg4, hcell⟩ := HA2.out k hkl
        have hc := hcell wr hS.out.2
        have hgw : g4 < wr.heap.size := Nat.lt_of_lt_of_le hg4 hS.out.2.size
        have e4r : wr.cell? ⟨g, off + 4, none⟩ = some (.slice (some ⟨g4, off4, none⟩) nb k4) := (hS.out.2.cell (p := ⟨g, off + 4, none⟩) HX.out.2.2.2.2.1).trans HE4.out.1
        have lgr : g < wr.heap.size := Nat.lt_of_lt_of_le HE4.out.2 hS.out.2.size
        have HCk : Hid (Calls Tryd.prog 40 #[.pointer (some ⟨P, 0, none⟩), .string l2[k], .int .i64 (ns : Int)] wr fun e w' => e = .returned (.tuple #[]) ∧ WkAt w' F P (bindsS ns (l2.take (k + 1)) (bindsS ns (TrN.params t) sP)) ∧ Below F w w') := by
          refine (HC2.out k hkl wr hS.out.1).mono ?_
          rintro e w' ⟨rfl, h1, h2⟩
          exact ⟨rfl, h1, hS.out.2.trans h2⟩
        generalize l2[k] = nm at hc HCk
        clear hcell hkl hS HA2 HC2 hk hg4
        go_wp2_with (go_at_call 40; fail)
        refine HCk.out.mono ?_
        rintro e w3 ⟨rfl, hr⟩
        have HR2 : Hid (WkAt w3 F P (bindsS ns (l2.take (k + 1)) (bindsS ns (TrN.params t) sP)) ∧ Below F w w3) := hr
        clear hr HCk hc
        go_wp2
        go_roundw
        case rel => exact ⟨k + 1, hkn, by go_num, HR2⟩
        case measure => simp [intOf]; omega
      · have HF : Hid (WkAt wr F P (bindsS ns (bndM t) sP) ∧ Below F w wr) := by
          have e : l2.take k = l2 := List.take_of_length_le (by rw [HN2.out]; omega)
          have h3 := hS.out
          rw [e, ← HBd.out] at h3
          exact h3
        clear hS HA2 HC2
        go_wp2
        go_end0
        exact ⟨rfl, HF.out⟩)
set_option maxHeartbeats 8000000 in
set_option maxRecDepth 100000 in
theorem wkEnterNo_c (F P B d : Nat) (t : Tr (d + 1)) (g off : Nat) (hls : ∀ x ∈ bndM t, x.size ≤ maxLen) (s : WS) (w : World) (h : WkAt w F P s) (hE : ExAt w B (d + 1) t g off) (hB : B ≤ F) (ht : tot s + 2 + 4 * (bndM t).length ≤ 3000000) (hk : ¬ TrN.kind t = 5) :
    Calls Tryd.prog 47 #[.pointer (some ⟨P, 0, none⟩), .pointer (some ⟨g, off, none⟩)] w fun e w' => e = .returned (.tuple #[]) ∧ WkAt w' F P (bindsS s.scope.length (bndM t) (pushS (TrN.kind t) s)) ∧ Below F w w' := by
  obtain ⟨bl, pv, sv, av, m, c, h⟩ := h
  obtain ⟨o, cap, rfl, hn, hcap⟩ := owns_form h.pr
  obtain ⟨os, caps, rfl, hns, hcaps⟩ := owns_form h.sr
  have HS : Hid (WkS w F P s bl (.slice o s.parts.length cap) (.slice os s.scope.length caps) av m c) := h
  obtain ⟨c0, c1, c2, c3, c4, c5, f0, f1, f2, f4, f5⟩ := h.blk.all6
  have lP := h.blk.lt
  have hE0 := hE
  obtain ⟨hg, e0, -, -, ⟨o3, k3, e3, t3⟩, ⟨o4, k4, e4, t4⟩, -, -⟩ := hE
  have lg : g < w.heap.size := by have := h.FW; omega
  have hgP : g ≠ P := by have := h.FP; omega
  obtain ⟨n, hnn⟩ : ∃ n, s.parts.length = n := ⟨_, rfl⟩
  obtain ⟨mt, hmt⟩ : ∃ mt, s.met = mt := ⟨_, rfl⟩
  obtain ⟨lm, hlm⟩ : ∃ lm, s.lam = lm := ⟨_, rfl⟩
  obtain ⟨ns, hnsc⟩ : ∃ ns, s.scope.length = ns := ⟨_, rfl⟩
  have hb1 : tot s = s.met + s.puts + s.bs.length + s.asked.length + s.scope.length + s.parts.length + s.lam := rfl
  have hlen : (bndM t).length = (TrN.params t).length + (TrN.binds t).length := by simp [bndM]
  have hpush := tot_push (TrN.kind t) s
  have HX : Hid (s.parts.length = n ∧ s.met = mt ∧ n ≤ 3000000 ∧ F ≤ P ∧ g < F ∧ s.lam = lm ∧ s.scope.length = ns) := ⟨hnn, hmt, by omega, h.FP, by omega, hlm, hnsc⟩
  obtain ⟨sP, hsP⟩ : ∃ sP, pushS (TrN.kind t) s = sP := ⟨_, rfl⟩
  have HSP : Hid (pushS (TrN.kind t) s = sP) := hsP
  rw [hsP] at hpush ⊢
  rw [hnsc]
  obtain ⟨l2, hl2⟩ : ∃ l2, (TrN.binds t).map Prod.fst = l2 := ⟨_, rfl⟩
  obtain ⟨nb, hnb⟩ : ∃ nb, (TrN.binds t).length = nb := ⟨_, rfl⟩
  have hl2n : l2.length = nb := by rw [← hl2, List.length_map, hnb]
  have hbnd : bndM t = TrN.params t ++ l2 := by rw [← hl2]; rfl
  have HA1 : Hid (∀ W : World, WkAt W F P sP → Below F w W → Calls Tryd.prog 67 #[.pointer (some ⟨P, 0, none⟩), .slice o3 (TrN.params t).length k3, .int .i64 (ns : Int)] W fun e w' => e = .returned (.tuple #[]) ∧ WkAt w' F P (bindsS ns ((l2).take 0) (bindsS ns (TrN.params t) sP)) ∧ Below F w w') := by
    intro W hW hb
    refine (wkBindAll_c F P B (TrN.params t) (fun x hx => hls x (by rw [hbnd]; exact List.mem_append_left _ hx)) o3 k3 sP ns W hW (t3.same (fun g off hg => hb.cell (p := ⟨g, off, none⟩) (by show g < F; omega))) hB (by have := hb.size; have := h.FW; omega) (by omega) (by omega)).mono ?_
    rintro e w' ⟨rfl, q1, q2⟩
    exact ⟨rfl, q1, hb.trans q2⟩
  have HA2 : Hid (∀ k (hk : k < l2.length), ∃ g4 off4, o4 = some ⟨g4, off4, none⟩ ∧ g4 < w.heap.size ∧ ∀ W : World, Below F w W → W.cell? ⟨g4, off4 + k * 8, none⟩ = some (.string l2[k])) := by
    intro k hk
    have hk' : k < (TrN.binds t).length := by omega
    have hF := h.FW
    rcases t4 with h9 | ⟨g4, off4, e, hg4, h9⟩
    · rw [h9] at hk'; cases hk'
    · refine ⟨g4, off4, e, by omega, fun W hW => ?_⟩
      rw [hW.cell (p := ⟨g4, off4 + k * 8, none⟩) (by show g4 < F; omega)]
      have := (h9 k hk').1
      rw [this]; congr 2
      simp [← hl2]
  have HC2 : Hid (∀ k (hk : k < l2.length), ∀ W : World, WkAt W F P (bindsS ns (l2.take k) (bindsS ns (TrN.params t) sP)) → Calls Tryd.prog 40 #[.pointer (some ⟨P, 0, none⟩), .string l2[k], .int .i64 (ns : Int)] W fun e w' => e = .returned (.tuple #[]) ∧ WkAt w' F P (bindsS ns (l2.take (k + 1)) (bindsS ns (TrN.params t) sP)) ∧ Below F W w') := by
    intro k hk W hW
    have q1 := tot_binds ns (l2.take k) (bindsS ns (TrN.params t) sP)
    have q2 : (l2.take k).length ≤ l2.length := by simp; omega
    have q3 := tot_binds ns (TrN.params t) sP
    have := wkBind_c F P (bindsS ns (l2.take k) (bindsS ns (TrN.params t) sP)) ns l2[k] (hls _ (by rw [hbnd]; exact List.mem_append_right _ (List.getElem_mem hk))) W hW (by omega) (by omega)
    rw [← binds_snoc ns l2 k hk] at this
    exact this
  have HN2 : Hid (l2.length = nb) := hl2n
  have HBd : Hid (bindsS ns (bndM t) sP = bindsS ns l2 (bindsS ns (TrN.params t) sP)) := by
    have e : bindsS ns (bndM t) sP = bindsS ns l2 (bindsS ns (TrN.params t) sP) := by rw [hbnd]; unfold bindsS; rw [List.foldl_append]
    exact e
  rw [hnn] at c0
  rw [hmt] at c2
  rw [hlm] at c1
  rw [hnsc] at c4
  rw [hnb] at e4
  have hlamI : (lm : Int) ≤ 3000000 := by omega
  have hnbI : (nb : Int) ≤ 3000000 := by omega
  have HK : Hid (¬ TrN.kind t = 5) := hk
  skip
  clear h hn hcap hns hcaps hnn hmt hlm hnsc hb1 ht hE0 hls hB t3 t4 hlen hpush hsP hl2 hnb hl2n hbnd hg
  go_enter Tryd.func47, Tryd.ntmps47
  go_upto_region 0 with fail
  go_region_law (first | (refine part_arm HS HX.out.1 HX.out.2.1 HX.out.2.2.1 _ _ (by rfl) (by rfl) (by rfl) (by rfl) ?_; intro o7 c7 w7 H7 c07 f07 l07) | (go_simp; go_wp2_with fail))
  all_goals (
    obtain ⟨V, hV⟩ : ∃ V, w7.setCell ⟨P, 0, none⟩ (.slice (some ⟨o7, 0, none⟩) (n + 1) c7) = V := ⟨_, rfl⟩
    have hS1 := H7.out.1
    have hB1 : Below F w V := by rw [← hV]; exact H7.out.2.setCell (p := ⟨P, 0, none⟩) HX.out.2.2.2.1 _
    rw [hV] at hS1 ⊢
    have H1 : Hid (WkS V F P { s with parts := (s.met, none) :: s.parts } bl (.slice (some ⟨o7, 0, none⟩) (n + 1) c7) (.slice os s.scope.length caps) av m c) := hS1
    have HB1 : Hid (Below F w V) := hB1
    have cc : ∀ k, V.cell? ⟨g, k, none⟩ = w.cell? ⟨g, k, none⟩ := fun k => hB1.cell (p := ⟨g, k, none⟩) HX.out.2.2.2.2.1
    rw [← cc] at e0 e3 e4
    have lgV : g < V.heap.size := Nat.lt_of_lt_of_le lg hB1.size
    clear c0 c1 c2 c3 c4 c5 f0 f1 f2 f4 f5 lP H7 c07 f07 l07 hV hB1 HS cc lg
    obtain ⟨c0, c1, c2, c3, c4, c5, f0, f1, f2, f4, f5⟩ := H1.out.blk.all6
    have lP := H1.out.blk.lt
    clear hS1
    simp only [HX.out.2.2.2.2.2.1] at c1
    rw [HX.out.2.2.2.2.2.2] at c4
    go_upto_region 3 with fail
    have H2 : Hid (WkAt V F P sP ∧ Below F w V) := by
      have e2 : sP = { s with parts := (s.met, none) :: s.parts } := by rw [← HSP.out]; unfold pushS; rw [if_neg HK.out]
      exact ⟨⟨bl, _, _, av, m, c, by rw [e2]; exact H1.out⟩, HB1.out⟩
    go_wp2_with (go_at_call 67; fail)
    refine (HA1.out _ H2.out.1 H2.out.2).mono ?_
    rintro e w2 ⟨rfl, q1, q2⟩
    have HI : Hid (WkAt w2 F P (bindsS ns (l2.take 0) (bindsS ns (TrN.params t) sP)) ∧ Below F w w2) := ⟨q1, q2⟩
    have cc : ∀ k, w2.cell? ⟨g, k, none⟩ = w.cell? ⟨g, k, none⟩ := fun k => q2.cell (p := ⟨g, k, none⟩) HX.out.2.2.2.2.1
    have cc1 : ∀ k, V.cell? ⟨g, k, none⟩ = w.cell? ⟨g, k, none⟩ := fun k => HB1.out.cell (p := ⟨g, k, none⟩) HX.out.2.2.2.2.1
    have e4w : w.cell? ⟨g, off + 4, none⟩ = some (.slice o4 nb k4) := by rw [← cc1]; exact e4
    have e42 : w2.cell? ⟨g, off + 4, none⟩ = some (.slice o4 nb k4) := by rw [cc]; exact e4w
    have lg2 : g < w2.heap.size := Nat.lt_of_lt_of_le (show g < w.heap.size by have := HX.out; have := H1.out.FW; rcases Nat.lt_or_ge g w.heap.size with h | h; exact h; simp [World.cell?, Array.getElem?_eq_none h] at e4w) q2.size
    have HE4 : Hid (w.cell? ⟨g, off + 4, none⟩ = some (.slice o4 nb k4) ∧ g < w.heap.size) := ⟨e4w, by rcases Nat.lt_or_ge g w.heap.size with h | h; exact h; simp [World.cell?, Array.getElem?_eq_none h] at e4w⟩
    clear q1 q2 cc cc1 e4w e0 e3 e4 c0 c1 c2 c3 c4 c5 f0 f1 f2 f4 f5 lP H1 HB1 HA1 H2 lgV
    go_wp2
    clear e42 lg2
    go_loopw [49] (fun i wr => ∃ k : Nat, k ≤ nb ∧ i = .int .i64 k ∧ Hid (WkAt wr F P (bindsS ns (l2.take k) (bindsS ns (TrN.params t) sP)) ∧ Below F w wr)) (fun i _ => nb - (intOf i).toNat)
    case atStart => exact ⟨0, Nat.zero_le _, rfl, HI⟩
    case round =>
      obtain ⟨k, hk, rfl, hS⟩ := hrel
      clear HI
      by_cases hkn : k < nb
      · have hkl : k < l2.length := by rw [HN2.out]; exact hkn
        obtain ⟨g4, off4, rfl, hg4, hcell⟩ := HA2.out k hkl
        have hc := hcell wr hS.out.2
        have hgw : g4 < wr.heap.size := Nat.lt_of_lt_of_le hg4 hS.out.2.size
        have e4r : wr.cell? ⟨g, off + 4, none⟩ = some (.slice (some ⟨g4, off4, none⟩) nb k4) := (hS.out.2.cell (p := ⟨g, off + 4, none⟩) HX.out.2.2.2.2.1).trans HE4.out.1
        have lgr : g < wr.heap.size := Nat.lt_of_lt_of_le HE4.out.2 hS.out.2.size
        have HCk : Hid (Calls Tryd.prog 40 #[.pointer (some ⟨P, 0, none⟩), .string l2[k], .int .i64 (ns : Int)] wr fun e w' => e = .returned (.tuple #[]) ∧ WkAt w' F P (bindsS ns (l2.take (k + 1)) (bindsS ns (TrN.params t) sP)) ∧ Below F w w') := by
          refine (HC2.out k hkl wr hS.out.1).mono ?_
          rintro e w' ⟨rfl, h1, h2⟩
          exact ⟨rfl, h1, hS.out.2.trans h2⟩
        generalize l2[k] = nm at hc HCk
        clear hcell hkl hS HA2 HC2 hk hg4
        go_wp2_with (go_at_call 40; fail)
        refine HCk.out.mono ?_
        rintro e w3 ⟨rfl, hr⟩
        have HR2 : Hid (WkAt w3 F P (bindsS ns (l2.take (k + 1)) (bindsS ns (TrN.params t) sP)) ∧ Below F w w3) := hr
        clear hr HCk hc
        go_wp2
        go_roundw
        case rel => exact ⟨k + 1, hkn, by go_num, HR2⟩
        case measure => simp [intOf]; omega
      · have HF : Hid (WkAt wr F P (bindsS ns (bndM t) sP) ∧ Below F w wr) := by
          have e : l2.take k = l2 := List.take_of_length_le (by rw [HN2.out]; omega)
          have h3 := hS.out
          rw [e, ← HBd.out] at h3
          exact h3
        clear hS HA2 HC2
        go_wp2
        go_end0
        exact ⟨rfl, HF.out⟩)
theorem wkEnter_c (F P B d : Nat) (t : Tr (d + 1)) (g off : Nat) (hls : ∀ x ∈ bndM t, x.size ≤ maxLen) (s : WS) (w : World) (h : WkAt w F P s) (hE : ExAt w B (d + 1) t g off) (hB : B ≤ F) (ht : tot s + 2 + 4 * (bndM t).length ≤ 3000000) :
    Calls Tryd.prog 47 #[.pointer (some ⟨P, 0, none⟩), .pointer (some ⟨g, off, none⟩)] w fun e w' => e = .returned (.tuple #[]) ∧ WkAt w' F P (bindsS s.scope.length (bndM t) (pushS (TrN.kind t) s)) ∧ Below F w w' := by
  by_cases hk : TrN.kind t = 5
  · exact wkEnterLam_c F P B d t g off hls s w h hE hB ht hk
  · exact wkEnterNo_c F P B d t g off hls s w h hE hB ht hk
end Go.Proofs.YtjmpjfggbhongaaDoor
