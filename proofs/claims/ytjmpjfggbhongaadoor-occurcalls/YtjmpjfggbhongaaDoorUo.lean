/-
  Package occur (stage 16): fits, metIn, by contracts.
-/
import Derived.Test.YtjmpjfggbhongaaDoorUn
import Derived.Test.YtjmpjfggbhongaaDoorP03
import Derived.Laws.Rows
namespace Go.Proofs.YtjmpjfggbhongaaDoor
open Go.RowKit Go.Shelf Go.Maps
set_option linter.unusedVariables false

def sB0 (nm : ByteArray) : WS := ⟨[], 0, 0, 1, [⟨nm, 1, 0, 0, 0, 0, none⟩], fun x => if x = nm.data.toList then some 0 else none, [0], [0]⟩
theorem sB0_eq (nm : ByteArray) : bindS 0 nm s00 = sB0 nm := rfl
theorem sB0_wf (nm : ByteArray) : Wf (sB0 nm) := by
  refine ⟨List.Pairwise.nil, fun q hq => (by cases hq), fun q hq => (by cases hq), fun i hi => ?_, fun x i hx => ?_⟩
  · have : i = 0 := by simpa [sB0] using hi
    subst this; exact Nat.zero_lt_one
  · have hx' : (if x = nm.data.toList then some 0 else none) = some i := hx
    by_cases h : x = nm.data.toList
    · rw [if_pos h] at hx'; cases hx'
      exact ⟨Nat.zero_lt_one, h.symm, Nat.zero_lt_one, Nat.le_refl _, Nat.le_refl _, by show 1 ≤ 5; decide, .inl ⟨rfl, rfl⟩, Nat.le_refl _⟩
    · rw [if_neg h] at hx'; cases hx'
/-- What is met of a name. -/
theorem met_math {d : Nat} (t : Tr d) (nm : ByteArray) : ((exprS d t (sB0 nm)).asked)[0]? = some 0 ∧ ((exprS d t (sB0 nm)).bd 0).occ = ofM d t nm.data.toList ∧ ((exprS d t (sB0 nm)).bd 0).places = cntN d t nm.data.toList ∧ 0 < (exprS d t (sB0 nm)).bs.length := by
  have h := exprS_chd d t
  obtain ⟨p1, k1, u1, ⟨l, a1, -⟩⟩ := h.2 (sB0 nm) (sB0_wf nm) (fun _ => rfl)
  have hg := h.1 nm.data.toList
  obtain ⟨v1, v2⟩ := u1 nm.data.toList 0 (by show (if _ then _ else _) = _; rw [if_pos rfl])
  refine ⟨by rw [a1]; rfl, ?_, ?_, Nat.lt_of_lt_of_le Nat.zero_lt_one k1.len⟩
  · rcases Nat.eq_zero_or_pos (cntN d t nm.data.toList) with h0 | h0
    · rw [v1 h0, hg.one h0]; rfl
    · obtain ⟨y1, -⟩ := v2 h0
      rw [y1]
      exact comb_one hg.rg
  · rcases Nat.eq_zero_or_pos (cntN d t nm.data.toList) with h0 | h0
    · rw [v1 h0, h0]; rfl
    · obtain ⟨-, y2, -⟩ := v2 h0
      rw [y2]; exact Nat.zero_add _
theorem Blk.cells7 {W : World} {B : Nat} {v0 v1 v2 v3 v4 v5 v6 : Value} {T : TypeId} (h : Blk W B #[v0, v1, v2, v3, v4, v5, v6] T) : W.cell? ⟨B, 0, none⟩ = some v0 ∧ W.cell? ⟨B, 1, none⟩ = some v1 ∧ W.cell? ⟨B, 2, none⟩ = some v2 ∧ W.cell? ⟨B, 3, none⟩ = some v3 ∧ W.cell? ⟨B, 4, none⟩ = some v4 ∧ W.cell? ⟨B, 5, none⟩ = some v5 ∧ W.cell? ⟨B, 6, none⟩ = some v6 := ⟨h.cell 0 _ rfl, h.cell 1 _ rfl, h.cell 2 _ rfl, h.cell 3 _ rfl, h.cell 4 _ rfl, h.cell 5 _ rfl, h.cell 6 _ rfl⟩
theorem sizeM_pos16 : ∀ (d : Nat) (t : Tr d), 1 ≤ sizeM d t
  | 0, t => nomatch t
  | d + 1, t => by show 1 ≤ 1 + _ + _ + _; omega
/-- A result that lies in a block, and one that does not. -/
theorem results_cell_tmp {P : Program} {fn : Func} {p q : Tmp} {ty : TypeId} (h : fn.results = #[.cell p ty, .tmp q]) (tmps : Array Value) (w : World) (g : Nat) (t : TypeId) (cs : Array Value) (fr : Nat × Nat) (d : TypeDesc)
    (hp : tmps.getD p undef = .pointer (some ⟨g, 0, none⟩)) (hg : w.heap[g]? = some (.cells cs t fr))
    (hu : P.underlying ty = some d) (hd : (match d with | .struct _ | .array _ _ => true | _ => false) = true) (hi : (P.info? ty).map (·.size) = some cs.size) :
    (results fn tmps).run P w = .ok (.tuple #[.agg cs, tmps.getD q undef]) w := by
  have hp' : tmps[p]?.getD undef = .pointer (some ⟨g, 0, none⟩) := by simpa using hp
  simp [results, h, hp', asAddr, run_loadVar_row w g t ty cs fr d hg hu hd hi]
set_option maxHeartbeats 4000000 in
set_option maxRecDepth 100000 in
theorem ofits_c (d : Nat) (t : Tr (d + 1)) (cs : Array Value) (B N : Nat) (w : World) (ha : ExVal w B d t (.agg cs)) (hk : Blk w N cs 29) (hw : B ≤ w.heap.size) (hz : sizeM (d + 1) t ≤ 1048576) (hd : d + 1 ≤ 4096) :
    Calls Tryd.prog 29 #[.pointer (some ⟨N, 0, none⟩)] w fun e w' => e = .returned (.bool true) ∧ Below w.heap.size w w' := by
  obtain ⟨o3, c3, o4, c4, o5, c5, o6, c6, ea, -⟩ := id ha
  cases ea
  have HZ : Hid (Calls Tryd.prog 46 #[.agg #[.int .i64 (TrN.kind t), .string (TrN.name t), .int .i64 (TrN.num t), .slice o3 (TrN.params t).length c3, .slice o4 (TrN.binds t).length c4, .slice o5 (TrN.args t).length c5, .slice o6 (TrN.alts t).length c6]] w fun e w' => e = .returned (.int .i64 (sizeM (d + 1) t : Int)) ∧ Below w.heap.size w w') := Size_c d t _ B w ha hw hz hd
  obtain ⟨q0, q1, q2, q3, q4, q5, q6⟩ := hk.cells7
  have lN := hk.lt
  have hp := sizeM_pos16 (d + 1) t
  obtain ⟨sz, hsz⟩ : ∃ sz, sizeM (d + 1) t = sz := ⟨_, rfl⟩
  rw [hsz] at HZ hp
  have hpI : (0 : Int) < (sz : Int) := by omega
  clear ha hk hw hz hd hsz hp
  go_enter Tryd.func29, Tryd.ntmps29
  go_wp2_with (go_at_call 46; fail)
  refine HZ.out.mono ?_
  rintro e w1 ⟨rfl, h1⟩
  have H1 : Hid (Below w.heap.size w w1) := h1
  clear h1 HZ
  go_wp2
  go_ret
  have hpN : 0 < sz := by omega
  exact ⟨by show Ending.returned (.bool (decide (0 < sz))) = _; rw [decide_eq_true hpN], H1.out⟩
set_option maxHeartbeats 8000000 in
set_option maxRecDepth 100000 in
theorem metIn_c (d : Nat) (t : Tr (d + 1)) (cs : Array Value) (nm : ByteArray) (B N : Nat) (w : World) (ha : ExVal w B d t (.agg cs)) (hk : Blk w N cs 29) (hBN : B ≤ N) (hz : sizeM (d + 1) t ≤ 1048576) (hd : d + 1 ≤ 4096) (hN : NmOK (d + 1) t) (hs : nm.size ≤ maxLen) (hG : GT16 w) (ht : 8 + wM (d + 1) t ≤ 3000000) :
    Calls Tryd.prog 25 #[.pointer (some ⟨N, 0, none⟩), .string nm] w fun e w' => ∃ n' x3 x4 x5 hh, e = .returned (.tuple #[.agg #[.string n', .int .i64 (ofM (d + 1) t nm.data.toList : Nat), .int .i64 (cntN (d + 1) t nm.data.toList : Nat), .int .i64 x3, .int .i64 x4, .int .i64 x5, .pointer hh], .int .i64 0]) ∧ Below w.heap.size w w' := by
  obtain ⟨V, hV⟩ : ∃ V, w.alloc (.cells #[.string ⟨#[]⟩, .int .i64 0, .int .i64 0, .int .i64 0, .int .i64 0, .int .i64 0, .pointer none] 59) = V := ⟨_, rfl⟩
  have b0 : Below w.heap.size w V := by rw [← hV]; exact below1 w _
  have lN := hk.lt
  have hVs : V.heap.size = w.heap.size + 1 := by rw [← hV]; exact Array.size_push _
  have kR : Blk V w.heap.size #[.string ⟨#[]⟩, .int .i64 0, .int .i64 0, .int .i64 0, .int .i64 0, .int .i64 0, .pointer none] 59 := by rw [← hV]; exact Blk.new w _ _
  have hE : ∀ W : World, Below V.heap.size V W → ExVal W B d t (.agg cs) ∧ Blk W N cs 29 := fun W hW => by
    have hb := b0.trans (hW.mono b0.size)
    exact ⟨ha.same (fun g off hg => hb.cell (p := ⟨g, off, none⟩) (by show g < w.heap.size; omega)), hk.below hb⟩
  have HF : Hid (Calls Tryd.prog 29 #[.pointer (some ⟨N, 0, none⟩)] V fun e w' => e = .returned (.bool true) ∧ Below V.heap.size V w') :=
    ofits_c d t cs B N V (hE V (Below.refl _ _)).1 (hE V (Below.refl _ _)).2 (by omega) hz hd
  have HX : Hid (∀ W F P, Below V.heap.size V W → V.heap.size ≤ F → WkAt W F P s00 → Calls Tryd.prog 40 #[.pointer (some ⟨P, 0, none⟩), .string nm, .int .i64 0] W fun e w1 => e = .returned (.tuple #[]) ∧ Below V.heap.size V w1 ∧
      Calls Tryd.prog 31 #[.pointer (some ⟨P, 0, none⟩), .pointer (some ⟨N, 0, none⟩)] w1 fun e w2 => e = .returned (.tuple #[]) ∧ WkAt w2 F P (exprS (d + 1) t (sB0 nm)) ∧ Below V.heap.size V w2) := by
    intro W F P hW hF hA
    refine (wkBind_c F P s00 0 nm hs W hA (by decide) (by omega)).mono ?_
    rintro e w1 ⟨rfl, h1, b1⟩
    rw [sB0_eq] at h1
    have hb1 := hW.trans (b1.mono hF)
    obtain ⟨x1, x2⟩ := hE w1 hb1
    refine ⟨rfl, hb1, ?_⟩
    obtain ⟨o3, c3, o4, c4, o5, c5, o6, c6, ea, -⟩ := id x1
    cases ea
    have x3 := x1.at hBN x2
    refine (wkOK (d + 1) t F P (N + 1) N 0 (sB0 nm) w1 h1 x3 (by omega) hN (sB0_wf nm) (fun _ => rfl) (hG.below (F := w.heap.size) hG.size (b0.trans (hb1.mono b0.size))) (by have := hG.size; omega) (by show tot (sB0 nm) + _ ≤ _; have e : tot (sB0 nm) = 4 := rfl; omega)).mono ?_
    rintro e w2 ⟨rfl, h2, b2⟩
    exact ⟨rfl, h2, hb1.trans (b2.mono hF)⟩
  obtain ⟨mm1, mm2, mm3, mm4⟩ := met_math t nm
  obtain ⟨s2, hs2⟩ : ∃ s2, exprS (d + 1) t (sB0 nm) = s2 := ⟨_, rfl⟩
  rw [hs2] at mm1 mm2 mm3 mm4 HX
  obtain ⟨oc, hoc⟩ : ∃ oc, ofM (d + 1) t nm.data.toList = oc := ⟨_, rfl⟩
  obtain ⟨cn, hcn⟩ : ∃ cn, cntN (d + 1) t nm.data.toList = cn := ⟨_, rfl⟩
  rw [hoc] at mm2 ⊢
  rw [hcn] at mm3 ⊢
  have HM : Hid (s2.asked[0]? = some 0 ∧ (s2.bd 0).occ = oc ∧ (s2.bd 0).places = cn ∧ 0 < s2.bs.length) := ⟨mm1, mm2, mm3, mm4⟩
  have HB : Hid (Below w.heap.size w V ∧ V.heap.size = w.heap.size + 1 ∧ Blk V w.heap.size #[.string ⟨#[]⟩, .int .i64 0, .int .i64 0, .int .i64 0, .int .i64 0, .int .i64 0, .pointer none] 59) := ⟨b0, hVs, kR⟩
  clear ha hk hBN hz hd hN hs hG ht b0 lN hVs kR hE mm1 mm2 mm3 mm4 hs2 hoc hcn
  go_enter Tryd.func25, Tryd.ntmps25
  go_wp2_with (go_at_call 29; fail)
  (try rw [hV])
  refine HF.out.mono ?_
  rintro e w1 ⟨rfl, h1⟩
  have H1 : Hid (Below V.heap.size V w1) := h1
  clear h1 HF
  go_wp2_with (go_at_call 30; fail)
  refine (newWalk_c w1).mono ?_
  rintro e w2 ⟨P, rfl, hA, hb2⟩
  have H2 : Hid (Below V.heap.size V w2 ∧ V.heap.size ≤ w1.heap.size ∧ WkAt w2 w1.heap.size P s00) := ⟨H1.out.trans (hb2.mono H1.out.size), H1.out.size, hA⟩
  clear hA hb2
  have HC := HX.out w2 w1.heap.size P H2.out.1 H2.out.2.1 H2.out.2.2
  have HC1 : Hid (Calls Tryd.prog 40 #[.pointer (some ⟨P, 0, none⟩), .string nm, .int .i64 0] w2 fun e y1 => e = .returned (.tuple #[]) ∧ Below V.heap.size V y1 ∧
      Calls Tryd.prog 31 #[.pointer (some ⟨P, 0, none⟩), .pointer (some ⟨N, 0, none⟩)] y1 fun e y2 => e = .returned (.tuple #[]) ∧ WkAt y2 w1.heap.size P s2 ∧ Below V.heap.size V y2) := HC
  clear HC HX
  go_wp2_with (go_at_call 40; fail)
  refine HC1.out.mono ?_
  rintro e y1 ⟨rfl, -, hC2⟩
  have HC2 : Hid (Calls Tryd.prog 31 #[.pointer (some ⟨P, 0, none⟩), .pointer (some ⟨N, 0, none⟩)] y1 fun e y2 => e = .returned (.tuple #[]) ∧ WkAt y2 w1.heap.size P s2 ∧ Below V.heap.size V y2) := hC2
  clear hC2 HC1
  go_wp2_with (go_at_call 31; fail)
  refine HC2.out.mono ?_
  rintro e y2 ⟨rfl, hW2, hb2⟩
  have HY : Hid (Below V.heap.size V y2) := hb2
  obtain ⟨bl, pv, sv, av, m, c, hW⟩ := hW2
  obtain ⟨oa, capa, rfl, hna, -⟩ := owns_form hW.ar
  have hlen : 0 < s2.asked.length := by
    rcases Nat.lt_or_ge 0 s2.asked.length with h | h
    · exact h
    · have := HM.out.1; rw [List.getElem?_eq_none h] at this; cases this
  obtain ⟨ga, rfl, lga, -, cga⟩ := owns_cellV hW.ar hlen
  have h0s := HM.out.2.2.2
  have hb0 := (hW.bd 0 HM.out.2.2.2).1
  obtain ⟨z0, z1, z2, z3, z4, z5, z6⟩ := hb0.cells7
  have lB := hb0.lt
  obtain ⟨-, -, -, -, -, c5, -, -, -, -, -⟩ := hW.blk.all6
  have lP := hW.blk.lt
  have e1 : s2.bs[0].occ = oc := by rw [← WS.bd_lt HM.out.2.2.2]; exact HM.out.2.1
  have e2 : s2.bs[0].places = cn := by rw [← WS.bd_lt HM.out.2.2.2]; exact HM.out.2.2.1
  rw [e1] at z1
  rw [e2] at z2
  obtain ⟨hh, hhh⟩ : ∃ hh, ptV bl s2.bs[0].hid = .pointer hh := by cases s2.bs[0].hid <;> exact ⟨_, rfl⟩
  rw [hhh] at z6
  obtain ⟨K, hK⟩ : ∃ K, bl 0 = K := ⟨_, rfl⟩
  have ca : y2.cell? ⟨ga, 0, none⟩ = some (.pointer (some ⟨K, 0, none⟩)) := by
    rw [cga]; unfold iL; rw [List.getElem?_map, HM.out.1]; show some (Value.pointer (some ⟨bl 0, 0, none⟩)) = _; rw [hK]
  rw [hK] at z0 z1 z2 z3 z4 z5 z6 lB
  generalize s2.bs[0].name = n' at z0
  generalize (s2.bs[0].last : Int) = x3 at z3
  generalize (s2.bs[0].lam : Int) = x4 at z4
  generalize (s2.bs[0].level : Int) = x5 at z5
  have kR2 : Blk y2 w.heap.size #[.string ⟨#[]⟩, .int .i64 0, .int .i64 0, .int .i64 0, .int .i64 0, .int .i64 0, .pointer none] 59 := HB.out.2.2.below hb2
  have kR2' : Hid (Blk y2 w.heap.size #[.string ⟨#[]⟩, .int .i64 0, .int .i64 0, .int .i64 0, .int .i64 0, .int .i64 0, .pointer none] 59) := kR2
  obtain ⟨r0, r1, r2, r3, r4, r5, r6⟩ := kR2.cells7
  have lR := kR2.lt
  have fR : ∀ j, y2.frozen? ⟨w.heap.size, j, none⟩ = false := fun j => kR2.frozen j
  have f0 := fR 0; have f1 := fR 1; have f2 := fR 2; have f3 := fR 3; have f4 := fR 4; have f5 := fR 5; have f6 := fR 6
  have hnaI : (0 : Int) < (s2.asked.length : Int) := by omega
  generalize s2.asked.length = na at c5 hnaI
  clear hb2 hna hlen hb0 e1 e2 hhh hK cga kR2 fR HC2 hW h0s
  go_wp2
  (try simp only [Exit.inBlock, Exit.then])
  obtain ⟨X, hX⟩ : ∃ X, (((((((y2.setCell ⟨w.heap.size, 0, none⟩ (.string n')).setCell ⟨w.heap.size, 1, none⟩ (.int .i64 (oc : Int))).setCell ⟨w.heap.size, 2, none⟩ (.int .i64 (cn : Int))).setCell ⟨w.heap.size, 3, none⟩ (.int .i64 x3)).setCell ⟨w.heap.size, 4, none⟩ (.int .i64 x4)).setCell ⟨w.heap.size, 5, none⟩ (.int .i64 x5)).setCell ⟨w.heap.size, 6, none⟩ (.pointer hh)) = X := ⟨_, rfl⟩
  have kX : Blk X w.heap.size #[.string n', .int .i64 (oc : Int), .int .i64 (cn : Int), .int .i64 x3, .int .i64 x4, .int .i64 x5, .pointer hh] 59 := by
    rw [← hX]
    exact ((((((kR2'.out.set 0 (.string n')).set 1 (.int .i64 (oc : Int))).set 2 (.int .i64 (cn : Int))).set 3 (.int .i64 x3)).set 4 (.int .i64 x4)).set 5 (.int .i64 x5)).set 6 (.pointer hh)
  have bX : Below w.heap.size w X := by
    rw [← hX]
    have hb := HB.out.1.trans (HY.out.mono HB.out.1.size)
    exact ((((((hb.setCell (p := ⟨w.heap.size, 0, none⟩) (Nat.le_refl _) _).setCell (p := ⟨w.heap.size, 1, none⟩) (Nat.le_refl _) _).setCell (p := ⟨w.heap.size, 2, none⟩) (Nat.le_refl _) _).setCell (p := ⟨w.heap.size, 3, none⟩) (Nat.le_refl _) _).setCell (p := ⟨w.heap.size, 4, none⟩) (Nat.le_refl _) _).setCell (p := ⟨w.heap.size, 5, none⟩) (Nat.le_refl _) _).setCell (p := ⟨w.heap.size, 6, none⟩) (Nat.le_refl _) _
  rw [hX]
  refine bodyPost_ret (results_cell_tmp rfl _ _ w.heap.size 59 _ _ _ rfl kX Tryd.underlying59 rfl rfl) rfl ?_
  exact ⟨n', x3, x4, x5, hh, rfl, bX⟩
end Go.Proofs.YtjmpjfggbhongaaDoor
