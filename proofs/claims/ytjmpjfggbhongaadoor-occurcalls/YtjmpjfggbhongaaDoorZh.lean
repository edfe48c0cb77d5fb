/-
  Package occur (stage 16): All, by a contract.
-/
import Derived.Test.YtjmpjfggbhongaaDoorZf
import Derived.Test.YtjmpjfggbhongaaDoorUq
import Derived.Laws.MakeOwn
namespace Go.Proofs.YtjmpjfggbhongaaDoor
open Go.RowKit Go.Shelf Go.Maps
set_option linter.unusedVariables false

theorem s00_wf : Wf s00 := ⟨List.Pairwise.nil, fun q hq => (by cases hq), fun q hq => (by cases hq), fun i hi => (by cases hi), fun x i hx => (by cases hx)⟩
theorem ocL_eq : ∀ (L : List (ByteArray × Nat)) (a : List Value), a.length = L.length * 2 → (∀ i (h : i < L.length), a[i * 2]? = some (.string L[i].1) ∧ a[i * 2 + 1]? = some (.int .i64 (L[i].2 : Nat))) → a = ocL L
  | [], a, hl, _ => List.eq_nil_of_length_eq_zero hl
  | p :: L, a, hl, h => by
    match a, hl, h with
    | u :: v :: a', hl, h =>
      have h0 := h 0 (by simp)
      have e1 : u = .string p.1 := by have := h0.1; simpa using this
      have e2 : v = .int .i64 (p.2 : Nat) := by have := h0.2; simpa using this
      subst e1 e2
      show _ :: _ :: a' = _ :: _ :: ocL L
      congr 2
      refine ocL_eq L a' (by simp only [List.length_cons] at hl; omega) (fun i hi => ?_)
      have := h (i + 1) (by simp only [List.length_cons]; omega)
      rw [show (i + 1) * 2 = i * 2 + 1 + 1 by omega] at this
      simpa using this
    | [u], hl, h => simp only [List.length_cons, List.length_nil] at hl; omega
    | [], hl, h => simp only [List.length_cons, List.length_nil] at hl; omega
/-- The first pairs of a row are told. -/
def OcI (n : Nat) (L : List (ByteArray × Nat)) (R k : Nat) (W : World) : Prop := ∃ arr, Blk W R arr 42 ∧ arr.size = n * 2 ∧ ∀ i (h : i < L.length), i < k → arr[i * 2]? = some (.string L[i].1) ∧ arr[i * 2 + 1]? = some (.int .i64 (L[i].2 : Nat))
theorem OcI.next {n : Nat} {L : List (ByteArray × Nat)} {R k : Nat} {W : World} (h : OcI n L R k W) (hk : k < L.length) (hn : L.length = n) {y : ByteArray} {r : Nat} (e1 : L[k].1 = y) (e2 : L[k].2 = r) : OcI n L R (k + 1) ((W.setCell ⟨R, k * 2, none⟩ (.string y)).setCell ⟨R, k * 2 + 1, none⟩ (.int .i64 (r : Nat))) := by
  obtain ⟨arr, h1, h2, h3⟩ := h
  refine ⟨_, (h1.set (k * 2) _).set (k * 2 + 1) _, by simpa using h2, fun i hi hik => ?_⟩
  by_cases he : i = k
  · subst he
    rw [e1, e2]
    refine ⟨?_, ?_⟩
    · rw [Array.getElem?_setIfInBounds_ne (by omega), Array.getElem?_setIfInBounds_self_of_lt (by omega)]
    · rw [Array.getElem?_setIfInBounds_self_of_lt (by rw [Array.size_setIfInBounds]; omega)]
  · obtain ⟨g1, g2⟩ := h3 i hi (by omega)
    refine ⟨?_, ?_⟩
    · rw [Array.getElem?_setIfInBounds_ne (by omega), Array.getElem?_setIfInBounds_ne (by omega)]; exact g1
    · rw [Array.getElem?_setIfInBounds_ne (by omega), Array.getElem?_setIfInBounds_ne (by omega)]; exact g2
theorem OcI.done {L : List (ByteArray × Nat)} {R F : Nat} {W : World} (h : OcI L.length L R L.length W) (hF : F ≤ R) (hn : L.length ≤ 3000000) : OcR F W (some ⟨R, 0, none⟩) L.length L := by
  obtain ⟨arr, h1, h2, h3⟩ := h
  have e : arr.toList = ocL L := ocL_eq L arr.toList (by rw [Array.length_toList]; exact h2) (fun i hi => by
    obtain ⟨g1, g2⟩ := h3 i hi hi
    rw [Array.getElem?_toList, Array.getElem?_toList]
    exact ⟨g1, g2⟩)
  exact ⟨ocL_len L, .inr ⟨R, L.length, arr, rfl, hF, h1, Nat.le_refl _, by unfold maxLen; omega, h2, by rw [← h2, ← Array.length_toList, List.take_length, e]⟩⟩
theorem OcI.facts {n : Nat} {L : List (ByteArray × Nat)} {R k : Nat} {W : World} (h : OcI n L R k W) {j : Nat} (hj : j < n * 2) : (∃ u, W.cell? ⟨R, j, none⟩ = some u) ∧ W.frozen? ⟨R, j, none⟩ = false ∧ R < W.heap.size := by
  obtain ⟨arr, h1, h2, -⟩ := h
  exact ⟨⟨arr[j], h1.cell j _ (Array.getElem?_eq_getElem (by omega))⟩, h1.frozen j, h1.lt⟩
theorem OcI.drew {n : Nat} {L : List (ByteArray × Nat)} {R k : Nat} {W : World} (h : OcI n L R k W) : OcI n L R k W.drew := h
theorem mkOcc_run (n : Nat) (W : World) (hn : n ≤ 3000000) : (Instr.makeSlice 38 (.int .i64 (n : Int)) (.int .i64 (n : Int))).run Tryd.prog W = .ok (.slice (some ⟨W.heap.size, 0, none⟩) n n) (W.alloc (.cells (madeCells #[.string ⟨#[]⟩, .int .i64 0] (n * 2)) 42)) := by
  obtain ⟨i, hi, hz, hs, hb⟩ := info_parts16 infoOcc
  have hr := run_make (P := Tryd.prog) W 38 42 i _ Tryd.underlying38 hi hz .i64 .i64 n n (by omega) (Int.le_refl _) (by rw [hb]; omega) (by omega)
  rw [hs] at hr
  exact hr
set_option maxHeartbeats 16000000 in
set_option maxRecDepth 100000 in
theorem All_c16 (d : Nat) (t : Tr (d + 1)) (va : Value) (B : Nat) (w : World) (ha : ExVal w B d t va) (hB : B ≤ w.heap.size) (hz : sizeM (d + 1) t ≤ 1048576) (hd : d + 1 ≤ 4096) (hN : NmOK (d + 1) t) (hG : GT16 w) (ht : wM (d + 1) t ≤ 3000000) :
    Calls Tryd.prog 17 #[va] w fun e w' => ∃ o c, e = .returned (.tuple #[.slice o (allOc (d + 1) t).length c, .int .i64 0]) ∧ OcR w.heap.size w' o c (allOc (d + 1) t) ∧ Below w.heap.size w w' := by
  obtain ⟨o3, c3, o4, c4, o5, c5, o6, c6, ea, -⟩ := id ha
  subst ea
  obtain ⟨V, hV⟩ : ∃ V, w.alloc (.cells #[.int .i64 (TrN.kind t), .string (TrN.name t), .int .i64 (TrN.num t), .slice o3 (TrN.params t).length c3, .slice o4 (TrN.binds t).length c4, .slice o5 (TrN.args t).length c5, .slice o6 (TrN.alts t).length c6] 29) = V := ⟨_, rfl⟩
  have k0 : Blk V w.heap.size #[.int .i64 (TrN.kind t), .string (TrN.name t), .int .i64 (TrN.num t), .slice o3 (TrN.params t).length c3, .slice o4 (TrN.binds t).length c4, .slice o5 (TrN.args t).length c5, .slice o6 (TrN.alts t).length c6] 29 := by rw [← hV]; exact Blk.new w _ _
  have b0 : Below w.heap.size w V := by rw [← hV]; exact below1 w _
  have hVs : V.heap.size = w.heap.size + 1 := by rw [← hV]; exact Array.size_push _
  have hE : ∀ W : World, Below V.heap.size V W → ExVal W B d t (.agg #[.int .i64 (TrN.kind t), .string (TrN.name t), .int .i64 (TrN.num t), .slice o3 (TrN.params t).length c3, .slice o4 (TrN.binds t).length c4, .slice o5 (TrN.args t).length c5, .slice o6 (TrN.alts t).length c6]) ∧ Blk W w.heap.size #[.int .i64 (TrN.kind t), .string (TrN.name t), .int .i64 (TrN.num t), .slice o3 (TrN.params t).length c3, .slice o4 (TrN.binds t).length c4, .slice o5 (TrN.args t).length c5, .slice o6 (TrN.alts t).length c6] 29 := fun W hW => by
    have hb := b0.trans (hW.mono b0.size)
    exact ⟨ha.same (fun g off hg => hb.cell (p := ⟨g, off, none⟩) (by show g < w.heap.size; omega)), k0.below hW⟩
  have HF : Hid (Calls Tryd.prog 29 #[.pointer (some ⟨w.heap.size, 0, none⟩)] V fun e w' => e = .returned (.bool true) ∧ Below V.heap.size V w') :=
    ofits_c d t _ B w.heap.size V (hE V (Below.refl _ _)).1 (hE V (Below.refl _ _)).2 (by omega) hz hd
  obtain ⟨s2, hs2⟩ : ∃ s2, exprS (d + 1) t s00 = s2 := ⟨_, rfl⟩
  have HX : Hid (∀ W F P, Below V.heap.size V W → V.heap.size ≤ F → WkAt W F P s00 → Calls Tryd.prog 31 #[.pointer (some ⟨P, 0, none⟩), .pointer (some ⟨w.heap.size, 0, none⟩)] W fun e w2 => e = .returned (.tuple #[]) ∧ WkAt w2 F P s2 ∧ Below V.heap.size V w2) := by
    intro W F P hW hF hA
    obtain ⟨x1, x2⟩ := hE W hW
    have x3 := x1.at hB x2
    rw [← hs2]
    refine (wkOK (d + 1) t F P (w.heap.size + 1) w.heap.size 0 s00 W hA x3 (by omega) hN s00_wf (fun _ => rfl) (hG.below (F := w.heap.size) hG.size (b0.trans (hW.mono b0.size))) (by have := hG.size; omega) (by show tot s00 + _ ≤ _; have e : tot s00 = 0 := rfl; omega)).mono ?_
    rintro e w2 ⟨rfl, h2, b2⟩
    exact ⟨rfl, h2, hW.trans (b2.mono hF)⟩
  obtain ⟨L, hL⟩ : ∃ L, allOc (d + 1) t = L := ⟨_, rfl⟩
  have hLn : L.length ≤ 3000000 := by rw [← hL]; exact Nat.le_trans (allOc_len (d + 1) t) ht
  obtain ⟨-, -, -, ⟨lA, a1, a2, a3⟩⟩ := (exprS_chd (d + 1) t).2 s00 s00_wf (fun _ => rfl)
  rw [hs2, hL] at a2
  rw [hs2] at a1 a3
  have a1' : s2.asked = lA := by rw [a1]; rfl
  have hn : s2.asked.length = L.length := by rw [a1', ← a2, List.length_map]
  have HAs : Hid (s2.asked.length = L.length ∧ ∀ i (h : i < L.length), ∃ a, s2.asked[i]? = some a ∧ ∃ ha : a < s2.bs.length, L[i] = (s2.bs[a].name, s2.bs[a].occ)) := by
    refine ⟨hn, fun i h => ?_⟩
    have hi : i < lA.length := by rw [← a1', hn]; exact h
    refine ⟨lA[i], by rw [a1', List.getElem?_eq_getElem hi], (a3 _ (List.getElem_mem hi)).2, ?_⟩
    have hb : s2.bd lA[i] = s2.bs[lA[i]]'((a3 _ (List.getElem_mem hi)).2) := WS.bd_lt _
    rw [← hb]
    have e1 : L[i]? = some (viewS s2 lA[i]) := by rw [← a2, List.getElem?_map, List.getElem?_eq_getElem hi]; rfl
    rw [List.getElem?_eq_getElem h] at e1
    exact Option.some.inj e1
  rw [hL]
  have HB : Hid (Below w.heap.size w V ∧ V.heap.size = w.heap.size + 1 ∧ L.length ≤ 3000000) := ⟨b0, hVs, hLn⟩
  have HV : Hid (w.alloc (.cells #[.int .i64 (TrN.kind t), .string (TrN.name t), .int .i64 (TrN.num t), .slice o3 (TrN.params t).length c3, .slice o4 (TrN.binds t).length c4, .slice o5 (TrN.args t).length c5, .slice o6 (TrN.alts t).length c6] 29) = V) := hV
  clear ha hB hz hd hN hG ht k0 b0 hVs hE hs2 hL hLn a1 a2 a3 a1' hn hV
  obtain ⟨n, hn⟩ : ∃ n, L.length = n := ⟨_, rfl⟩
  have HLn : Hid (L.length = n) := hn
  rw [hn]
  clear hn
  go_enter Tryd.func17, Tryd.ntmps17
  go_upto_region 1 with fail
  rw [HV.out]
  clear HV
  go_wp2_with (go_at_call 29; fail)
  refine HF.out.mono ?_
  rintro e w1 ⟨rfl, h1⟩
  have H1 : Hid (Below V.heap.size V w1) := h1
  clear h1 HF
  go_wp2_with (go_at_call 30; fail)
  refine (newWalk_c w1).mono ?_
  rintro e w2 ⟨P, rfl, hA, hb2⟩
  have H2 : Hid (Below V.heap.size V w2 ∧ V.heap.size ≤ w1.heap.size ∧ WkAt w2 w1.heap.size P s00) := ⟨H1.out.trans (hb2.mono H1.out.size), H1.out.size, hA⟩
  clear hA hb2
  have HC : Hid (Calls Tryd.prog 31 #[.pointer (some ⟨P, 0, none⟩), .pointer (some ⟨w.heap.size, 0, none⟩)] w2 fun e w3 => e = .returned (.tuple #[]) ∧ WkAt w3 w1.heap.size P s2 ∧ Below V.heap.size V w3) := HX.out w2 w1.heap.size P H2.out.1 H2.out.2.1 H2.out.2.2
  clear HX
  go_wp2_with (go_at_call 31; fail)
  refine HC.out.mono ?_
  rintro e y2 ⟨rfl, hW2, hb2⟩
  clear HC
  obtain ⟨bl, pv, sv, av, m, c, hW⟩ := hW2
  obtain ⟨oa, capa, rfl, hna, -⟩ := owns_form hW.ar
  have HY : Hid (Below w.heap.size w y2) := HB.out.1.trans (hb2.mono HB.out.1.size)
  have hbl6 := hW.blk
  rw [HAs.out.1] at hbl6
  have HP : Hid (∀ W, Below y2.heap.size y2 W → W.cell? ⟨P, 5, none⟩ = some (.slice oa L.length capa) ∧ P < W.heap.size) := fun W h => by
    have k := hbl6.below h
    exact ⟨k.cell 5 _ rfl, k.lt⟩
  have HCell : Hid (∀ i (hi : i < L.length), ∃ ga K, oa = some ⟨ga, 0, none⟩ ∧ ga < y2.heap.size ∧ K < y2.heap.size ∧ ∀ W, Below y2.heap.size y2 W → W.cell? ⟨ga, i, none⟩ = some (.pointer (some ⟨K, 0, none⟩)) ∧ ga < W.heap.size ∧ W.cell? ⟨K, 0, none⟩ = some (.string L[i].1) ∧ W.cell? ⟨K, 1, none⟩ = some (.int .i64 (L[i].2 : Nat)) ∧ K < W.heap.size) := by
    intro i hi
    obtain ⟨a, e1, hab, e2⟩ := HAs.out.2 i hi
    obtain ⟨ga, e3, lga, -, cga⟩ := owns_cellV hW.ar (k := i) (by rw [HAs.out.1]; exact hi)
    have hb := (hW.bd a hab).1
    refine ⟨ga, bl a, e3, lga, hb.lt, fun W h => ?_⟩
    have hb' := hb.below h
    rw [e2]
    refine ⟨?_, Nat.lt_of_lt_of_le lga h.size, hb'.cell 0 _ rfl, hb'.cell 1 _ rfl, hb'.lt⟩
    rw [h.cell (p := ⟨ga, i, none⟩) lga, cga]
    unfold iL
    rw [List.getElem?_map, e1]
    rfl
  rw [HLn.out] at HP
  have hmk : ∀ W : World, (Instr.makeSlice 38 (.int .i64 (n : Int)) (.int .i64 (n : Int))).run Tryd.prog W = .ok (.slice (some ⟨W.heap.size, 0, none⟩) n n) (W.alloc (.cells (madeCells #[.string ⟨#[]⟩, .int .i64 0] (n * 2)) 42)) := fun W => mkOcc_run n W (by rw [← HLn.out]; exact HB.out.2.2)
  have hnI : (n : Int) ≤ 3000000 := by have := HB.out.2.2; have := HLn.out; omega
  obtain ⟨y3, hy3⟩ : ∃ y3, y2.alloc (.cells (madeCells #[.string ⟨#[]⟩, .int .i64 0] (n * 2)) 42) = y3 := ⟨_, rfl⟩
  have HY3 : Hid (OcI n L y2.heap.size 0 y3 ∧ Below y2.heap.size y2 y3) := by
    rw [← hy3]
    exact ⟨⟨_, Blk.new y2 _ _, size_madeCells _ _, fun i h hi => absurd hi (Nat.not_lt_zero _)⟩, below1 y2 _⟩
  obtain ⟨q5, lP⟩ := HP.out y2 (Below.refl _ _)
  have HyE : Hid (y2.alloc (.cells (madeCells #[.string ⟨#[]⟩, .int .i64 0] (n * 2)) 42) = y3) := hy3
  clear hW hbl6 hna hb2 hy3 HAs H1 H2
  go_upto_region 6 with fail
  rw [HyE.out]
  clear HyE hmk q5 lP
  obtain ⟨R, hR⟩ : ∃ R, y2.heap.size = R := ⟨_, rfl⟩
  have HR : Hid (y2.heap.size = R) := hR
  rw [hR] at HY3 ⊢
  obtain ⟨q5, lP⟩ := HP.out y3 (by rw [hR]; exact HY3.out.2)
  clear hR
  go_wp2
  clear q5 lP
  go_loopw [24, 6, 7] (fun i v6 v7 wr => ∃ k : Nat, k ≤ n ∧ i = .int .i64 k ∧ Hid (OcI n L R k wr ∧ Below R y2 wr)) (fun i _ _ _ => n - (intOf i).toNat)
  case atStart => exact ⟨0, Nat.zero_le _, rfl, HY3⟩
  case round =>
    obtain ⟨k, hk, rfl, hS⟩ := hrel
    clear HY3
    by_cases hkn : k < n
    · have hkl : k < L.length := by rw [HLn.out]; exact hkn
      obtain ⟨ga, K, rfl, hga, hKy, hX⟩ := HCell.out k hkl
      obtain ⟨y, hy⟩ : ∃ y, L[k].1 = y := ⟨_, rfl⟩
      obtain ⟨r, hr⟩ : ∃ r, L[k].2 = r := ⟨_, rfl⟩
      rw [hy, hr] at hX
      obtain ⟨p0, p1, p2, p3, p4⟩ := hX wr (by rw [HR.out]; exact hS.out.2)
      have HNx : Hid (∀ W, OcI n L R k W → OcI n L R (k + 1) ((W.setCell ⟨R, k * 2, none⟩ (.string y)).setCell ⟨R, k * 2 + 1, none⟩ (.int .i64 (r : Nat)))) := fun W h => h.next hkl HLn.out hy hr
      obtain ⟨⟨u0, f0⟩, f1, f2⟩ := hS.out.1.facts (j := k * 2) (by omega)
      obtain ⟨⟨u1, f3⟩, f4, -⟩ := hS.out.1.facts (j := k * 2 + 1) (by omega)
      have hKR : K ≠ R := by have := HR.out; omega
      have hgR : ga ≠ R := by have := HR.out; omega
      have HI0 : Hid (OcI n L R k wr ∧ Below R y2 wr) := hS
      clear hS hX hkl hy hr hga hKy HCell HP
      go_upto_region 9 with fail
      go_region
      go_wp2
      go_roundw
      case rel => exact ⟨k + 1, hkn, by go_num, ⟨OcI.drew (HNx.out _ HI0.out.1), ((HI0.out.2.setCell (p := ⟨R, k * 2, none⟩) (Nat.le_refl _) _).setCell (p := ⟨R, k * 2 + 1, none⟩) (Nat.le_refl _) _).drew⟩⟩
      case measure => simp [intOf]; omega
    · have hke : n = k := by omega
      have HD : Hid (OcR w.heap.size wr (some ⟨R, 0, none⟩) n L ∧ Below w.heap.size w wr) := by
        have h1 := hS.out.1
        have h2 := HB.out.2.2
        have h3 := HLn.out
        have h4 := HY.out.size
        have h5 := HR.out
        rw [← hke, ← h3] at h1
        refine ⟨by rw [← h3]; exact h1.done (by omega) h2, ?_⟩
        exact HY.out.trans (by have := hS.out.2; rw [← h5] at this; exact this.mono h4)
      clear hS HCell HP
      go_wp2
      first | go_ret2 | go_ret
      exact ⟨some ⟨R, 0, none⟩, n, rfl, HD.out.1, HD.out.2⟩
end Go.Proofs.YtjmpjfggbhongaaDoor
