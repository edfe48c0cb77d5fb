/-
  alike, by a contract: the walk.
  ofBuiltinTypes, consMayBe of the built-in constructors, slices.Contains of texts, by contracts.
  Numbers told in digits, laid at this program.
-/
import Derived.Test.YtegdloenakachaaGreatDoorCN16
import Derived.Test.YtegdloenakachaaGreatDoorCN11
import Derived.Shelf.Strconv.Itoa4
import Derived.Test.YtegdloenakachaaGreatDoorProg
namespace Go.Proofs.YtegdloenakachaaGreatDoor
open Go.RowKit Go.Shelf Go.Maps
set_option linter.unusedVariables false

/-- The cells of an alternative. -/
def AC (W : World) (a : AltH) (g off : Nat) : Prop := ∃ o3 n3 c3 k4 n5 m6 o7 n7 c7 o8 n8 c8 o9 n9 c9 oA nA cA, W.cell? ⟨g, off, none⟩ = some (.int .i64 a.kind) ∧ W.cell? ⟨g, off + 1, none⟩ = some (.string a.name) ∧ W.cell? ⟨g, off + 2, none⟩ = some (.int .i64 a.num) ∧ W.cell? ⟨g, off + 3, none⟩ = some (.slice o3 n3 c3) ∧ W.cell? ⟨g, off + 4, none⟩ = some (.int .i64 k4) ∧ W.cell? ⟨g, off + 5, none⟩ = some (.string n5) ∧ W.cell? ⟨g, off + 6, none⟩ = some (.int .i64 m6) ∧ W.cell? ⟨g, off + 7, none⟩ = some (.slice o7 n7 c7) ∧ W.cell? ⟨g, off + 8, none⟩ = some (.slice o8 n8 c8) ∧ W.cell? ⟨g, off + 9, none⟩ = some (.slice o9 n9 c9) ∧ W.cell? ⟨g, off + 10, none⟩ = some (.slice oA nA cA)
theorem alt_cells {W : World} {B d : Nat} {a : AltH × Tr d} {g off : Nat} (h : AltAt W B d a g off) : g < B ∧ AC W a.1 g off := by
  cases d with
  | zero => exact nomatch a.2
  | succ d =>
    obtain ⟨a0, a1, a2, ⟨o3, c3, a3, -⟩, hg, e0, e1, e2, ⟨o7, c7, e3, -⟩, ⟨o8, c8, e4, -⟩, ⟨o9, c9, e5, -⟩, oA, cA, e6, -⟩ := h
    exact ⟨hg, o3, _, c3, _, _, _, o7, _, c7, o8, _, c8, o9, _, c9, oA, _, cA, a0, a1, a2, a3, e0, e1, e2, e3, e4, e5, e6⟩
theorem AC.same {W W' : World} {a : AltH} {g off : Nat} (h : AC W a g off) (hb : W'.heap[g]? = W.heap[g]?) : AC W' a g off := by
  obtain ⟨o3, n3, c3, k4, n5, m6, o7, n7, c7, o8, n8, c8, o9, n9, c9, oA, nA, cA, h0, h1, h2, h3, h4, h5, h6, h7, h8, h9, hA⟩ := h
  have e : ∀ j, W'.cell? ⟨g, j, none⟩ = W.cell? ⟨g, j, none⟩ := fun j => cell_of_block hb j
  exact ⟨o3, n3, c3, k4, n5, m6, o7, n7, c7, o8, n8, c8, o9, n9, c9, oA, nA, cA, (e _).trans h0, (e _).trans h1, (e _).trans h2, (e _).trans h3, (e _).trans h4, (e _).trans h5, (e _).trans h6, (e _).trans h7, (e _).trans h8, (e _).trans h9, (e _).trans hA⟩
set_option maxRecDepth 100000 in
set_option maxHeartbeats 8000000 in
theorem alike_c (fs : List CT) (m c : Nat) (w : World) (hc : CtSt w m c fs) (d : Nat) (l : List (AltH × Tr d)) (o : Option Addr) (cap B : Nat) (hl : RowIn B 11 (AltAt w B d) o l) (hw : B ≤ w.heap.size) (hn : l.length ≤ 2000000) (hF : ∀ a ∈ l, FitA a.1) :
    Calls Tryz.prog 157 #[.map (some m), .slice o l.length cap] w fun e w' => e = .returned (.bool (alkM fs (l.map Prod.fst))) ∧ Below w.heap.size w w' := by
  obtain ⟨L, hL⟩ : ∃ L, l.map Prod.fst = L := ⟨_, rfl⟩
  obtain ⟨n, hln⟩ : ∃ n, l.length = n := ⟨_, rfl⟩
  have hLn : L.length = n := by rw [← hL, List.length_map, hln]
  have HC : Hid (∀ k (h : k < L.length), ∃ g off, o = some ⟨g, off, none⟩ ∧ g < w.heap.size ∧ AC w L[k] g (off + k * 11)) := by
    intro k hk
    have hkl : k < l.length := by omega
    rcases hl with h9 | ⟨g, off, e, hg, h9⟩
    · rw [h9] at hkl; exact absurd hkl (Nat.not_lt_zero _)
    · have h8 := alt_cells (h9 k hkl)
      refine ⟨g, off, e, by omega, ?_⟩
      have e2 : L[k] = l[k].1 := by subst hL; rw [List.getElem_map]
      rw [e2]; exact h8.2
  have HFt : Hid (∀ a ∈ L, FitA a) := by
    intro a ha
    rw [← hL] at ha
    obtain ⟨x, hx, rfl⟩ := List.mem_map.1 ha
    exact hF x hx
  have HN : Hid (L.length = n ∧ n ≤ 2000000) := ⟨hLn, by omega⟩
  have HCt : Hid (CtSt w m c fs) := hc
  have hni : (n : Int) ≤ 2000000 := by omega
  have hmk : ∀ W : World, (Instr.makeSlice 202 (.int .i64 (n : Int)) (.int .i64 (n : Int))).run Tryz.prog W = .ok (.slice (some ⟨W.heap.size, 0, none⟩) n n) (W.alloc (.cells (madeCells #[.string ⟨#[]⟩, .int .i64 0] (n * 2)) 204)) := fun W => mkK_run n W (by omega)
  have H0 : Hid (AkI w n L fs 0 (.slice none 0 0) (w.alloc (.cells (madeCells #[.string ⟨#[]⟩, .int .i64 0] (n * 2)) 204))) := ak_start w n L fs
  obtain ⟨i0, hi0, hz0, hz1, hz2⟩ := info_parts infoStr7
  have HI0 : Hid (Tryz.prog.info? 9 = some i0 ∧ i0.zero = some (.string ⟨#[]⟩) ∧ i0.size = 1 ∧ i0.bytes = 16) := ⟨hi0, hz0, hz1, hz2⟩
  rw [hln, hL]
  clear hl hw hn hF hln hL hLn hc hi0 hz0 hz1 hz2
  obtain ⟨K, hK⟩ : ∃ K, w.heap.size = K := ⟨_, rfl⟩
  go_enter Tryz.func157, Tryz.ntmps157
  go_wp2
  clear hmk
  go_loopw [16, 6] (fun v ty wr => ∃ k : Nat, v = .int .i64 (k : Int) ∧ Hid (AkI w n L fs k ty wr)) (fun v _ _ => n - (intOf v).toNat)
  case atStart => exact ⟨0, rfl, H0.out⟩
  case round =>
    clear H0
    obtain ⟨k, rfl, HI⟩ := hrel
    by_cases hk : k < n
    · have hkl : k < L.length := by rw [HN.out.1]; exact hk
      obtain ⟨g, off, rfl, hg, hx⟩ := HC.out k hkl
      obtain ⟨g', off', e', hg', hx0⟩ := HC.out 0 (by omega)
      obtain ⟨rfl, rfl⟩ : g = g' ∧ off = off' := by injection e' with e'; injection e' with e1 e2; exact ⟨e1, e2⟩
      clear e' hg'
      have hBk := HI.out.b
      have hgr : g < wr.heap.size := Nat.lt_of_lt_of_le hg hBk.size
      obtain ⟨o3, n3, c3, k4, n5, m6, o7, n7, c7, o8, n8, c8, o9, n9, c9, oA, nA, cA, x0, x1, x2, x3, x4, x5, x6, x7, x8, x9, xA⟩ := hx.same (hBk.block g hg)
      have y0 : wr.cell? ⟨g, off, none⟩ = some (.int .i64 (hdK L)) := by
        obtain ⟨_, _, _, _, _, _, _, _, _, _, _, _, _, _, _, _, _, _, y0, -⟩ := hx0.same (hBk.block g hg)
        have e : hdK L = L[0].kind := by
          unfold hdK
          rw [List.head?_eq_getElem?, List.getElem?_eq_getElem (by omega)]; rfl
        rw [e]
        simpa using y0
      have hki : (k : Int) < (n : Int) := by omega
      have hn0 : (0 : Int) < (n : Int) := by omega
      obtain ⟨kd, hkd⟩ : ∃ kd, L[k].kind = kd := ⟨_, rfl⟩
      obtain ⟨nm, hnm⟩ : ∃ nm, L[k].name = nm := ⟨_, rfl⟩
      obtain ⟨nu, hnu⟩ : ∃ nu, L[k].num = nu := ⟨_, rfl⟩
      rw [hkd] at x0
      rw [hnm] at x1
      rw [hnu] at x2
      have HK : Hid (k < n ∧ ∃ h : k < L.length, L[k].kind = kd ∧ L[k].name = nm ∧ L[k].num = nu) := ⟨hk, hkl, hkd, hnm, hnu⟩
      have HBad : Hid (akB (hdK L) L[k] = false → alkM fs L = false) := by
        intro e
        have : L.all (akB (hdK L)) = false := by
          cases e9 : L.all (akB (hdK L)) with
          | false => rfl
          | true => have := List.all_eq_true.1 e9 L[k] (List.getElem_mem hkl); rw [e] at this; cases this
        unfold alkM; rw [this]; rfl
      have HKd : Hid (akB (hdK L) L[k] = (!decide (kd = 4) && decide (kd = hdK L))) := by show _ = _; unfold akB; rw [hkd]
      clear hx hx0 hkd hnm hnu hBk hk
      obtain ⟨k0, hk0⟩ : ∃ k0, hdK L = k0 := ⟨_, rfl⟩
      rw [hk0] at y0 HBad HKd
      have HK0 : Hid (hdK L = k0) := hk0
      clear hk0
      by_cases h4 : kd = 4
      · have HZ : Hid (alkM fs L = false) := HBad.out (by rw [HKd.out, h4]; rfl)
        subst h4
        go_wp2
        go_big_quiet (fail)
        go_wp2
        go_ret
        exact ⟨by rw [HZ.out]; rfl, HI.out.b.trans (((below1 wr _).trans ((dqb _ _).mono (below1 wr _).size)).mono HI.out.b.size)⟩
      · have e4 : (kd == 4) = false := by simpa using h4
        by_cases h0 : kd = k0
        · have HOk : Hid (akB k0 L[k] = true) := by show _ = _; rw [HKd.out, h0, decide_eq_true rfl]; simp [← h0, h4]
          subst h0
          have e00 : (kd != kd) = false := by simp
          go_wp2
          go_big_quiet (fail)
          obtain ⟨V, hV⟩ : ∃ V, (wr.alloc (.cells #[.int .i64 kd, .string nm, .int .i64 nu, .slice o3 n3 c3, .int .i64 k4, .string n5, .int .i64 m6, .slice o7 n7 c7, .slice o8 n8 c8, .slice o9 n9 c9, .slice oA nA cA] 40)).drewN nq = V := ⟨_, rfl⟩
          have hBV : Below wr.heap.size wr V := by rw [← hV]; exact (below1 wr _).trans ((dqb _ _).mono (below1 wr _).size)
          have kV : Blk V wr.heap.size #[.int .i64 kd, .string nm, .int .i64 nu, .slice o3 n3 c3, .int .i64 k4, .string n5, .int .i64 m6, .slice o7 n7 c7, .slice o8 n8 c8, .slice o9 n9 c9, .slice oA nA cA] 40 := by rw [← hV]; exact Blk.new wr _ _
          rw [hV]
          clear hV
          obtain ⟨P, hP⟩ : ∃ P, wr.heap.size = P := ⟨_, rfl⟩
          have HP : Hid (wr.heap.size = P) := hP
          rw [hP] at kV ⊢
          have v1 : V.cell? ⟨P, 1, none⟩ = some (.string nm) := kV.cell 1 _ rfl
          have v2 : V.cell? ⟨P, 2, none⟩ = some (.int .i64 nu) := kV.cell 2 _ rfl
          have lP : P < V.heap.size := kV.lt
          obtain ⟨arr, r1, r2, -⟩ := HI.out.ky
          have r1V := r1.below hBV
          rw [hK] at r1 r1V
          obtain ⟨u0, hu0⟩ : ∃ u, arr[k * 2]? = some u := ⟨_, Array.getElem?_eq_getElem (by have := HK.out.1; omega)⟩
          obtain ⟨u1, hu1⟩ : ∃ u, arr[k * 2 + 1]? = some u := ⟨_, Array.getElem?_eq_getElem (by have := HK.out.1; omega)⟩
          have a1 := r1V.cell _ _ hu0
          have a2 := r1V.cell _ _ hu1
          have a3 := r1V.frozen (k * 2)
          have a4 := r1V.frozen (k * 2 + 1)
          have lK : K < V.heap.size := r1V.lt
          have hKP : K ≠ P := by have := r1.lt; omega
          have hPK : P ≠ K := hKP.symm
          obtain ⟨U, hU⟩ : ∃ U, (V.setCell ⟨K, k * 2, none⟩ (.string nm)).setCell ⟨K, k * 2 + 1, none⟩ (.int .i64 nu) = U := ⟨_, rfl⟩
          have hsU : U.heap.size = V.heap.size := by rw [← hU, size_set7, size_set7]
          have hSt : ∀ X, Below U.heap.size U X → U.ownsRow (w.heap.size + 1) 9 1 u6 (tyL fs (L.take k)).length ((tyL fs (L.take k)).map Value.string) ∧ Below w.heap.size w U ∧ w.heap.size < U.heap.size ∧ (L.take (k + 1)).all (akB (hdK L)) = true ∧ (fstC fs nm.data.toList = none → AkI w n L fs (k + 1) u6 X) := by
            intro X hX
            obtain ⟨q1, q2, q3, q4, q5⟩ := HK.out
            have h9 := HI.out.stored hBV q1 q2 (by rw [HK0.out]; exact HOk.out) U (by rw [q4, q5, hK]; exact hU.symm) X hX
            rw [q4] at h9
            exact h9
          have hCt : CtSt U m c fs := HCt.out.same (by
            have hm := HCt.out.lt
            have hs1 := HI.out.b.size
            rw [← hU, heap_set_other _ _ _ _ _ (by omega), heap_set_other _ _ _ _ _ (by omega), hBV.block m (by omega)]
            exact HI.out.b.block m hm)
          obtain ⟨m0, hm0⟩ : ∃ m0, (tyL fs (L.take k)).length = m0 := ⟨_, rfl⟩
          have hm0n : m0 ≤ 2000000 := by have h1 := tyL_len fs (L.take k); rw [List.length_take] at h1; have := HN.out; omega
          have hCL := hCt.look nm (by obtain ⟨q1, q2, q3, q4, q5⟩ := HK.out; have := (HFt.out _ (List.getElem_mem q2)).1; rw [q4] at this; exact this)
          rw [← hU] at hCL
          have HSt : Hid (∀ X, Below U.heap.size U X → U.ownsRow (w.heap.size + 1) 9 1 u6 (tyL fs (L.take k)).length ((tyL fs (L.take k)).map Value.string) ∧ Below w.heap.size w U ∧ w.heap.size < U.heap.size ∧ (L.take (k + 1)).all (akB (hdK L)) = true ∧ (fstC fs nm.data.toList = none → AkI w n L fs (k + 1) u6 X)) := hSt
          have HUe : Hid ((V.setCell ⟨K, k * 2, none⟩ (.string nm)).setCell ⟨K, k * 2 + 1, none⟩ (.int .i64 nu) = U) := hU
          have HK' : Hid (w.heap.size = K) := hK
          have HBV : Hid (Below wr.heap.size wr V) := hBV
          have HM0 : Hid ((tyL fs (L.take k)).length = m0 ∧ m0 ≤ 2000000) := ⟨hm0, hm0n⟩
          rcases hCL with ⟨f, hf, hr⟩ | ⟨hf, hr⟩
          · have HF1 : Hid (fstC fs nm.data.toList = some f) := hf
            have HO : Hid (U.ownsRow (w.heap.size + 1) 9 1 u6 m0 ((tyL fs (L.take k)).map Value.string)) := by
              have := (hSt U (Below.refl _ _)).1
              rw [hm0] at this; exact this
            have HO2 : Hid (((V.setCell ⟨K, k * 2, none⟩ (.string nm)).setCell ⟨K, k * 2 + 1, none⟩ (.int .i64 nu)).ownsRow (w.heap.size + 1) 9 1 u6 m0 ((tyL fs (L.take k)).map Value.string)) := by show World.ownsRow _ _ _ _ _ _ _; rw [hU]; exact HO.out
            have HVs : Hid (∀ o, (((V.setCell ⟨K, k * 2, none⟩ (.string nm)).setCell ⟨K, k * 2 + 1, none⟩ (.int .i64 nu)).alloc o).heap.size = V.heap.size + 1) := fun o => by show (Array.push _ _).size = _; rw [Array.size_push, size_set7, size_set7]
            have HVb : Hid (∀ o o', w.heap.size + 1 ≤ ((((V.setCell ⟨K, k * 2, none⟩ (.string nm)).setCell ⟨K, k * 2 + 1, none⟩ (.int .i64 nu)).alloc o).alloc o').heap.size) := fun o o' => by show _ ≤ (Array.push _ _).size; rw [Array.size_push, HVs.out]; have := lK; omega
            obtain ⟨f0, f1, f2, f3⟩ := f
            unfold cnV at hr
            simp only at hr
            rw [hU] at hr
            clear hf hSt hBV hK hm0 hCt hsU r1 r1V r2 hu0 hu1 hP kV x0 x1 x2 x3 x4 x5 x6 x7 x8 x9 xA y0
            rw [← hU] at hr
            clear hU
            go_wp2_with (at_builtin; refine wpList_append_lies _ rfl _ _ 26 rfl (w.heap.size + 1) 9 i0 (.string ⟨#[]⟩) 1 16 Tryz.underlying26 HI0.out.1 HI0.out.2.1 HI0.out.2.2.1 HI0.out.2.2.2 rfl (by decide) _ _ _ rfl ((HO2.out.alloc _).alloc _) ⟨V.heap.size + 1, 0, none⟩ 1 1 [.string f2] rfl rfl (news_one _ _ _ _ (HVs.out _)) (by simp [Value.oneCell']) (by decide) (by unfold maxLen; omega) (by omega) (HVb.out _ _) _ rfl ?_; intro o8 c8 w8 hown8 hgrow8 hat8 hlt8; have H8 : Hid (((((V.setCell ⟨K, k * 2, none⟩ (.string nm)).setCell ⟨K, k * 2 + 1, none⟩ (.int .i64 nu)).alloc (.cells #[.string f0, .int .i64 f1, .string f2, .int .i64 f3] 59)).alloc (.cells #[.string f2] 9)).grownBy w8 u6.ownBlock ∧ w8.ownsRow (w.heap.size + 1) 9 1 (.slice (some ⟨o8, 0, none⟩) (m0 + 1) c8) (m0 + 1) ((tyL fs (L.take k)).map Value.string ++ [.string f2])) := ⟨hgrow8, hown8⟩; clear hown8 hgrow8 hat8 hlt8)
            refine ⟨⟨k + 1, by congr 1, ?_⟩, ?_⟩
            · obtain ⟨q1, q2, q3, q4, q5⟩ := HK.out
              have h9 := H8.out
              rw [HUe.out] at h9
              refine HI.out.grown HBV.out q1 q2 (by rw [HK0.out]; exact HOk.out) U (by rw [q4, q5, HK'.out]; exact HUe.out.symm) _ _ ((below1 U _).trans ((below1 _ _).mono (below1 U _).size)) (f0, f1, f2, f3) (by rw [q4]; exact HF1.out) h9.1 ?_
              rw [HM0.out.1]
              exact h9.2
            · show n - ((k : Int) + 1).toNat < n - ((k : Int)).toNat
              have := HK.out.1; omega
          · have HF0 : Hid (fstC fs nm.data.toList = none) := hf
            unfold cnZ at hr
            clear hf hSt hU hBV hK hm0 hm0n hCt hsU r1 r1V r2 hu0 hu1 hP kV x0 x1 x2 x3 x4 x5 x6 x7 x8 x9 xA y0
            go_wp2
            refine ⟨⟨k + 1, by congr 1, ?_⟩, ?_⟩
            · rw [HUe.out]
              exact (HSt.out _ (below1 _ _)).2.2.2.2 HF0.out
            · show n - ((k : Int) + 1).toNat < n - ((k : Int)).toNat
              have := HK.out.1; omega
        · have HZ : Hid (alkM fs L = false) := HBad.out (by rw [HKd.out, decide_eq_false h0, Bool.and_false])
          have e00 : (kd != k0) = true := by simpa using h0
          go_wp2
          go_big_quiet (fail)
          go_wp2
          go_ret
          exact ⟨by rw [HZ.out]; rfl, HI.out.b.trans (((below1 wr _).trans ((dqb _ _).mono (below1 wr _).size)).mono HI.out.b.size)⟩
    · have hki : ¬ (k : Int) < (n : Int) := by omega
      have hkn : k = n := by have := HI.out.le; omega
      subst hkn
      have hLt : L.take k = L := List.take_of_length_le (by have := HN.out.1; omega)
      have hok := HI.out.ok
      have hty := HI.out.ty
      rw [hLt] at hok hty
      obtain ⟨arr, r1, r2, r3⟩ := HI.out.ky
      have hKy : RowIn (w.heap.size + 1) 2 (KyAt wr) (some ⟨w.heap.size, 0, none⟩) (kyL L) := by
        refine .inr ⟨w.heap.size, 0, rfl, by omega, fun j hj => ?_⟩
        have hj2 : j < L.length := by unfold kyL at hj; rw [List.length_map] at hj; exact hj
        have h9 := r3 j hj2 (by have := HN.out.1; omega)
        have e : (kyL L)[j] = (L[j].name, L[j].num) := List.getElem_map ..
        rw [e, Nat.zero_add]
        exact ⟨r1.cell _ _ h9.1, r1.cell _ _ h9.2⟩
      have hkl : (kyL L).length = k := by unfold kyL; rw [List.length_map]; exact HN.out.1
      have HD : Hid (Calls Tryz.prog 171 #[.slice (some ⟨w.heap.size, 0, none⟩) k k] wr fun e w' => e = .returned (.bool (decide ((kd2 (kyL L)).Nodup))) ∧ Below wr.heap.size wr w') := by
        have h9 := distinctK_c (kyL L) (some ⟨w.heap.size, 0, none⟩) k (w.heap.size + 1) wr hKy (by have := r1.lt; omega) (by rw [hkl]; exact HN.out.2) (fun x hx => by
          unfold kyL at hx
          obtain ⟨a, ha, rfl⟩ := List.mem_map.1 hx
          exact ⟨(HFt.out a ha).1, (HFt.out a ha).2.2.2⟩)
        rw [hkl] at h9
        exact h9
      have HZ : Hid (alkM fs L = (decide ((kd2 (kyL L)).Nodup) && decide (cpl (tyL fs L) ≤ 1))) := by
        show _ = _
        unfold alkM; rw [hok, Bool.true_and]
      have HTy : Hid (wr.ownsRow (w.heap.size + 1) 9 1 u6 (tyL fs L).length ((tyL fs L).map Value.string)) := hty
      generalize decide ((kd2 (kyL L)).Nodup) = D at HD HZ
      have HBw : Hid (Below w.heap.size w wr) := HI.out.b
      rw [hK] at HD
      clear r1 r2 r3 hKy hkl hok hty hLt hk
      go_wp2_with (go_at_call 171; fail)
      refine HD.out.mono ?_
      rintro e w2 ⟨rfl, hb2⟩
      have HB2 : Hid (Below w.heap.size w w2) := HBw.out.trans (hb2.mono HBw.out.size)
      have HT2 : Hid (w2.ownsRow (w.heap.size + 1) 9 1 u6 (tyL fs L).length ((tyL fs L).map Value.string)) := owns_same HTy.out (fun g hg => hb2.block g (HTy.out.lt g hg).2)
      clear hb2
      cases D with
      | false =>
        go_wp2
        go_ret
        exact ⟨by rw [HZ.out]; rfl, HB2.out⟩
      | true =>
        have HZ2 : Hid (alkM fs L = decide (cpl (tyL fs L) ≤ 1)) := by show _ = _; rw [HZ.out, Bool.true_and]
        have HCp : Hid (∃ v', Calls Tryz.prog 172 #[u6] w2 (fun e w' => e = .returned v' ∧ Below w.heap.size w w') ∧ ∃ o' c', v' = .slice o' (cpl (tyL fs L)) c') := by
          rcases Go.Joins.ownsRow_forms HT2.out with ⟨hu, h0⟩ | ⟨g, cap2, hu⟩
          · refine ⟨.slice none 0 0, ?_, none, 0, ?_⟩
            · rw [hu]
              refine (Tryz.slices_Compact_empty none 0 w2).mono ?_
              rintro e w' ⟨rfl, rfl⟩
              exact ⟨rfl, HB2.out⟩
            · have e0 : tyL fs L = [] := List.length_eq_zero_iff.1 h0
              rw [e0]; rfl
          · have ho := HT2.out
            rw [hu] at ho ⊢
            have e : ((tyL fs L).map (fun t => t.data.toList)).map Proofs.encStr = (tyL fs L).map Value.string := by
              rw [List.map_map]
              apply List.map_congr_left
              intro x _
              simp [Proofs.encStr]
            rw [← e] at ho
            obtain ⟨g', cap', e1, h1, h2, h3, h4, h5, h6⟩ := Lib.holds_of_ownsRow ho (by intro h; cases h)
            cases e1
            have hsz : ((tyL fs L).map (fun t => t.data.toList)).toArray.size = (tyL fs L).length := by simp
            have hc := Tryz.slices_Compact g 0 cap2 ((tyL fs L).map (fun t => t.data.toList)).toArray w2 h6 (by rw [hsz]; unfold maxLen at h4; omega) (by rw [hsz]; exact h3)
            rw [hsz] at hc
            refine ⟨.slice (some ⟨g, 0, none⟩) (cpl (tyL fs L)) cap2, hc.mono ?_, _, _, rfl⟩
            rintro e w' ⟨rfl, q, rfl⟩
            exact ⟨rfl, Lib.below_putRow HB2.out (by omega)⟩
        have hcpl : cpl (tyL fs L) ≤ 2000000 := by
          have h1 := tyL_len fs L
          have h2 : cpl (tyL fs L) ≤ (tyL fs L).length := by
            unfold cpl Lib.compactUpTo
            rw [List.length_map]
            exact Nat.le_trans (List.length_filter_le _ _) (by rw [List.length_range]; exact Nat.le_refl _)
          have := HN.out; omega
        obtain ⟨v', hCv, o', c', rfl⟩ := HCp.out
        obtain ⟨z, hz⟩ : ∃ z, cpl (tyL fs L) = z := ⟨_, rfl⟩
        rw [hz] at hCv HZ2 hcpl
        have HCv : Hid (Calls Tryz.prog 172 #[u6] w2 (fun e w' => e = .returned (.slice o' z c') ∧ Below w.heap.size w w')) := hCv
        have hzi : (z : Int) ≤ 2000000 := by omega
        clear hCv HCp hz HT2 HTy HZ
        go_wp2_with (go_at_call 172; fail)
        refine HCv.out.mono ?_
        rintro e w3 ⟨rfl, hb3⟩
        have HB3 : Hid (Below w.heap.size w w3) := hb3
        clear hb3
        by_cases h1 : z ≤ 1
        · have hz1 : (z : Int) ≤ 1 := by omega
          have HZ3 : Hid (alkM fs L = true) := by show _ = _; rw [HZ2.out, decide_eq_true h1]
          clear h1
          go_wp2
          go_ret
          exact ⟨by rw [HZ3.out]; first | rfl | simp [hz1], HB3.out⟩
        · have hz1 : ¬ (z : Int) ≤ 1 := by omega
          have HZ3 : Hid (alkM fs L = false) := by show _ = _; rw [HZ2.out, decide_eq_false h1]
          clear h1
          go_wp2
          go_ret
          exact ⟨by rw [HZ3.out]; first | rfl | simp [hz1], HB3.out⟩
end Go.Proofs.YtegdloenakachaaGreatDoor

namespace Go.Proofs.YtegdloenakachaaGreatDoor
open Go.RowKit Go.Shelf Go.Maps
set_option linter.unusedVariables false

/-- A name looked up in a set. -/
theorem SetIs.look {W : World} {f c : Nat} {F : List UInt8 → Bool} (h : SetIs W f c F) (nm : ByteArray) (hs : nm.size ≤ maxLen) : (Instr.lookup 65 (.map (some f)) (.string nm) true).run Tryz.prog W = .ok (.tuple #[.agg #[], .bool (F nm.data.toList)]) W := by
  obtain ⟨D, hown, hD, hval, hall⟩ := h
  have hz : (zeroValue 63).run Tryz.prog W = .ok (.agg #[]) W := by kernel_rfl
  obtain ⟨v, ps, hrun, hv⟩ := hown.look_ok (string_keyed Tryz.underlying9) Tryz.underlying65 hz (zd := .held (.agg #[])) (zp := []) rfl (key_str nm hs)
  have h1 := hall nm.data.toList
  rw [h1] at hrun
  rw [hval] at hv
  have e : v = .agg #[] := heldElem_inv hv
  rw [e] at hrun
  exact hrun
def BfI (w : World) (k : Nat) (wr : World) : Prop := k ≤ 5 ∧ (∃ arr : Array Value, Blk wr w.heap.size arr 9 ∧ arr.size = 5 ∧ ∀ i (h : i < bi7.length), i < k → arr[i]? = some (.string bi7[i].1)) ∧ Below w.heap.size w wr
theorem bi7_len : bi7.length = 5 := rfl
theorem bi7_nm : ∀ k (h : k < bi7.length), nameB bi7[k].2.2.1.data.toList = true ∧ nameB bi7[k].1.data.toList = true ∧ 0 ≤ bi7[k].2.1 ∧ bi7[k].2.1 ≤ 32 ∧ bi7[k].2.2.1.size ≤ 10 ∧ bi7[k].1.size ≤ 10 := by decide
theorem bf1 : ((⟨#[76, 105, 115, 116]⟩ : ByteArray).toList == (⟨#[66, 111, 111, 108]⟩ : ByteArray).toList) = false := by kernel_rfl
theorem bf2 : Op.bytesLess (⟨#[76, 105, 115, 116]⟩ : ByteArray).toList (⟨#[66, 111, 111, 108]⟩ : ByteArray).toList = false := by kernel_rfl
theorem bf3 : ((⟨#[85, 110, 105, 116]⟩ : ByteArray).toList == (⟨#[76, 105, 115, 116]⟩ : ByteArray).toList) = false := by kernel_rfl
theorem bf4 : Op.bytesLess (⟨#[85, 110, 105, 116]⟩ : ByteArray).toList (⟨#[76, 105, 115, 116]⟩ : ByteArray).toList = false := by kernel_rfl
theorem bi7_fol (w : World) : ∀ k (h : k + 1 < bi7.length), Calls Tryz.prog 78 #[cnV bi7[k], cnV bi7[k + 1]] w fun e w' => e = .returned (.bool true) ∧ Below w.heap.size w w' := by
  intro k h
  rw [bi7_len] at h
  rcases (by omega : k = 0 ∨ k = 1 ∨ k = 2 ∨ k = 3) with rfl | rfl | rfl | rfl
  · exact follows_next _ _ w rfl rfl ⟨Int.le_refl 0, (by show (0 : Int) ≤ 1000; omega)⟩
  · exact follows_first _ _ w bf1 bf2 rfl
  · exact follows_next _ _ w rfl rfl ⟨Int.le_refl 0, (by show (0 : Int) ≤ 1000; omega)⟩
  · exact follows_first _ _ w bf3 bf4 rfl
theorem BfI.next {w wr V : World} {k : Nat} (h : BfI w k wr) (hV : Below wr.heap.size wr V) (hk : k < bi7.length) (nm : ByteArray) (hn : bi7[k].1 = nm) : BfI w (k + 1) (V.setCell ⟨w.heap.size, k, none⟩ (.string nm)) := by
  obtain ⟨h1, ⟨arr, r1, r2, r3⟩, h3⟩ := h
  have hk5 : k < 5 := hk
  have hBV : Below w.heap.size w V := h3.trans (hV.mono h3.size)
  refine ⟨hk, ⟨arr.setIfInBounds k (.string nm), (r1.below hV).set k _, by simpa using r2, fun i hi hik => ?_⟩, hBV.setCell (p := ⟨w.heap.size, k, none⟩) (Nat.le_refl _) _⟩
  by_cases e : i = k
  · subst e
    rw [Array.getElem?_setIfInBounds_self_of_lt (by omega), hn]
  · rw [Array.getElem?_setIfInBounds_ne (Ne.symm e)]
    exact r3 i hi (by omega)
set_option maxRecDepth 100000 in
set_option maxHeartbeats 4000000 in
theorem consLoop (g cap : Nat) (w : World) (hB : Blk w g bi7V 59) (HAn : Hid (∀ wr, BfI w 5 wr → Calls Tryz.prog 79 #[.slice (some ⟨w.heap.size, 0, none⟩) 5 5] wr fun e w' => e = .returned (.bool true) ∧ Below w.heap.size w w' ∧ Calls Tryz.prog 81 #[.slice (some ⟨g, 0, none⟩) 5 cap] w' fun r w2 => ∃ o2 c2, r = .returned (.slice o2 5 c2) ∧ Below w.heap.size w w2 ∧ Calls Tryz.prog 7 #[] w2 fun r w3 => ∃ g3, r = .returned (.slice (some ⟨g3, 0, none⟩) 5 5) ∧ Below w.heap.size w w3 ∧ Calls Tryz.prog 80 #[.slice o2 5 c2, .slice (some ⟨g3, 0, none⟩) 5 5] w3 fun r w4 => r = .returned (.bool true) ∧ Below w.heap.size w w4)) :
    Calls Tryz.prog 40 #[.slice (some ⟨g, 0, none⟩) 5 cap] w fun e w' => e = .returned (.bool true) ∧ Below w.heap.size w w' := by
  have hmk : ∀ W : World, (Instr.makeSlice 26 (.int .i64 5) (.int .i64 5)).run Tryz.prog W = .ok (.slice (some ⟨W.heap.size, 0, none⟩) 5 5) (W.alloc (.cells (madeCells #[.string ⟨#[]⟩] 5) 9)) := fun W => run_make_row' 26 9 (.string ⟨#[]⟩) 16 Tryz.underlying26 infoStr7 rfl .i64 .i64 5 (by omega) (by omega) W
  have HR : Hid (RowIn (g + 1) 4 (ConAt w) (some ⟨g, 0, none⟩) bi7 ∧ g < w.heap.size) := ⟨bi7_row hB (by omega), hB.lt⟩
  have H0 : Hid (BfI w 0 (w.alloc (.cells (madeCells #[.string ⟨#[]⟩] 5) 9))) := ⟨by omega, ⟨_, Blk.new w _ _, size_madeCells _ _, fun i h hi => absurd hi (Nat.not_lt_zero _)⟩, below1 w _⟩
  clear hB
  go_enter Tryz.func40, Tryz.ntmps40
  go_wp2
  clear hmk
  go_loopw [11] (fun v wr => ∃ k : Nat, v = .int .i64 (k : Int) ∧ Hid (BfI w k wr)) (fun v _ => 5 - (intOf v).toNat)
  case atStart => exact ⟨0, rfl, H0.out⟩
  case round =>
    clear H0
    obtain ⟨k, rfl, HI⟩ := hrel
    by_cases hk : k < 5
    · have hkl : k < bi7.length := hk
      obtain ⟨c0, c1, c2, c3⟩ : ConAt wr bi7[k] g (k * 4) := by
        rcases HR.out.1 with h9 | ⟨g', off', e, hg, h9⟩
        · cases h9
        · cases e
          have := h9 k hkl
          rw [Nat.zero_add] at this
          exact this.same (HI.out.2.2.block g HR.out.2)
      have hgr : g < wr.heap.size := Nat.lt_of_lt_of_le HR.out.2 HI.out.2.2.size
      obtain ⟨x1, x2, x3, x4, x5, x6⟩ := bi7_nm k hkl
      obtain ⟨nn, hnn⟩ : ∃ f, bi7[k] = f := ⟨_, rfl⟩
      rw [hnn] at c0 c1 c2 c3 x1 x2 x3 x4 x5 x6
      obtain ⟨nm, ar, ty, tg⟩ := nn
      simp only at c0 c1 c2 c3 x1 x2 x3 x4 x5 x6
      have hki : (k : Int) < 5 := by omega
      have HIs : Hid (∀ W, Calls Tryz.prog 77 #[.string ty] W fun e w' => e = .returned (.bool true) ∧ w' = W) := fun W => by have := isName_c ty (by omega) W; rw [x1] at this; exact this
      have n1 : ¬ ar < 0 := by omega
      have n2 : ¬ 32 < ar := by omega
      clear x1 x2 x3 x4 x5 x6
      rcases Nat.eq_zero_or_pos k with rfl | hkp
      · have e0 : tg = 0 := by
          have := congrArg (fun x : CT => x.2.2.2) hnn
          exact this.symm
        subst e0
        go_wp2_with (go_at_call 77; fail)
        refine (HIs.out _).mono ?_
        rintro e w2 ⟨rfl, rfl⟩
        have HB1 : Hid (Below w.heap.size w wr) := HI.out.2.2
        go_wp2
        go_big_quiet (fail)
        obtain ⟨arr, r1, r2, r3⟩ := HI.out.2.1
        obtain ⟨V, hV⟩ : ∃ V, (wr.alloc (.cells #[.string nm, .int .i64 ar, .string ty, .int .i64 0] 59)).drewN nq = V := ⟨_, rfl⟩
        have hBV : Below wr.heap.size wr V := by rw [← hV]; exact (below1 wr _).trans ((dqb _ _).mono (below1 wr _).size)
        have kV : Blk V wr.heap.size #[.string nm, .int .i64 ar, .string ty, .int .i64 0] 59 := by rw [← hV]; exact Blk.new wr _ _
        rw [hV]
        clear hV
        obtain ⟨arr, r1, r2, r3⟩ := HI.out.2.1
        have r1V := r1.below hBV
        obtain ⟨old, hold⟩ : ∃ old, arr[0]? = some old := ⟨_, Array.getElem?_eq_getElem (by omega)⟩
        have q1 := r1V.cell _ _ hold
        have q2 := r1V.frozen 0
        have q3 : w.heap.size < V.heap.size := r1V.lt
        have q4 : V.cell? ⟨wr.heap.size, 0, none⟩ = some (.string nm) := kV.cell 0 _ rfl
        have q5 : wr.heap.size < V.heap.size := kV.lt
        have HBV : Hid (Below wr.heap.size wr V) := hBV
        have HNm : Hid (∃ h : 0 < bi7.length, bi7[0].1 = nm) := ⟨hkl, by rw [hnn]⟩
        generalize wr.heap.size = P at q4 q5 ⊢
        clear r1 r2 r3 r1V hold hBV kV c0 c1 c2 c3 n1 n2 hgr hnn HIs
        go_wp2
        refine ⟨⟨1, rfl, ?_⟩, ?_⟩
        · obtain ⟨u1, u2⟩ := HNm.out
          exact HI.out.next HBV.out u1 nm u2
        · decide
      · obtain ⟨kp, rfl⟩ : ∃ kp, k = kp + 1 := ⟨k - 1, by omega⟩
        have hpl : kp < bi7.length := by omega
        obtain ⟨b0, b1, b2, b3⟩ : ConAt wr bi7[kp] g (kp * 4) := by
          rcases HR.out.1 with h9 | ⟨g', off', e, hg, h9⟩
          · cases h9
          · cases e
            have := h9 kp hpl
            rw [Nat.zero_add] at this
            exact this.same (HI.out.2.2.block g HR.out.2)
        have HFo : Hid (∀ W, Calls Tryz.prog 78 #[cnV bi7[kp], cnV (nm, ar, ty, tg)] W fun e w' => e = .returned (.bool true) ∧ Below W.heap.size W w') := fun W => by have := bi7_fol W kp hkl; rw [hnn] at this; exact this
        obtain ⟨pp, hpp⟩ : ∃ f, bi7[kp] = f := ⟨_, rfl⟩
        rw [hpp] at b0 b1 b2 b3 HFo
        obtain ⟨nm2, ar2, ty2, tg2⟩ := pp
        unfold cnV at HFo
        simp only at b0 b1 b2 b3 HFo
        clear hpp hpl
        go_wp2_with (go_at_call 77; fail)
        refine (HIs.out _).mono ?_
        rintro e w2 ⟨rfl, rfl⟩
        go_wp2
        obtain ⟨V0, hV0⟩ : ∃ V0, wr.alloc (.cells #[.string nm, .int .i64 ar, .string ty, .int .i64 tg] 59) = V0 := ⟨_, rfl⟩
        have hBV0 : Below wr.heap.size wr V0 := by rw [← hV0]; exact below1 wr _
        have kV : Blk V0 wr.heap.size #[.string nm, .int .i64 ar, .string ty, .int .i64 tg] 59 := by rw [← hV0]; exact Blk.new wr _ _
        rw [hV0]
        clear hV0
        have lP : wr.heap.size < V0.heap.size := kV.lt
        have hcg : ∀ j, V0.cell? ⟨g, j, none⟩ = wr.cell? ⟨g, j, none⟩ := fun j => cell_of_block (hBV0.block g hgr) j
        have HBV0 : Hid (Below wr.heap.size wr V0) := hBV0
        have HkV : Hid (Blk V0 wr.heap.size #[.string nm, .int .i64 ar, .string ty, .int .i64 tg] 59) := kV
        obtain ⟨k0, k1, k2, k3, -⟩ := kV.all4
        have lg : g < V0.heap.size := Nat.lt_of_lt_of_le hgr hBV0.size
        obtain ⟨P, hP⟩ : ∃ P, wr.heap.size = P := ⟨_, rfl⟩
        have HP : Hid (wr.heap.size = P) := hP
        rw [hP] at k0 k1 k2 k3 lP ⊢
        have s5d : V0.drew.cell? ⟨g, kp * 4, none⟩ = some (.string nm2) ∧ V0.drew.cell? ⟨g, kp * 4 + 1, none⟩ = some (.int .i64 ar2) ∧ V0.drew.cell? ⟨g, kp * 4 + 2, none⟩ = some (.string ty2) ∧ V0.drew.cell? ⟨g, kp * 4 + 3, none⟩ = some (.int .i64 tg2) ∧ V0.drew.cell? ⟨P, 0, none⟩ = some (.string nm) ∧ V0.drew.cell? ⟨P, 1, none⟩ = some (.int .i64 ar) ∧ V0.drew.cell? ⟨P, 2, none⟩ = some (.string ty) ∧ V0.drew.cell? ⟨P, 3, none⟩ = some (.int .i64 tg) := ⟨(hcg _).trans b0, (hcg _).trans b1, (hcg _).trans b2, (hcg _).trans b3, k0, k1, k2, k3⟩
        have HSk : Hid (∀ w9 : World, Below V0.drew.heap.size V0.drew w9 → w9.cell? ⟨g, kp * 4, none⟩ = some (.string nm2) ∧ w9.cell? ⟨g, kp * 4 + 1, none⟩ = some (.int .i64 ar2) ∧ w9.cell? ⟨g, kp * 4 + 2, none⟩ = some (.string ty2) ∧ w9.cell? ⟨g, kp * 4 + 3, none⟩ = some (.int .i64 tg2) ∧ w9.cell? ⟨P, 0, none⟩ = some (.string nm) ∧ w9.cell? ⟨P, 1, none⟩ = some (.int .i64 ar) ∧ w9.cell? ⟨P, 2, none⟩ = some (.string ty) ∧ w9.cell? ⟨P, 3, none⟩ = some (.int .i64 tg)) := by
          intro w9 hb9
          obtain ⟨t0, t1, t2, t3, t4, t5, t6, t7⟩ := s5d
          have e1 : ∀ j, w9.cell? ⟨g, j, none⟩ = V0.drew.cell? ⟨g, j, none⟩ := fun j => cell_of_block (hb9.block g lg) j
          have e2 : ∀ j, w9.cell? ⟨P, j, none⟩ = V0.drew.cell? ⟨P, j, none⟩ := fun j => cell_of_block (hb9.block P lP) j
          exact ⟨(e1 _).trans t0, (e1 _).trans t1, (e1 _).trans t2, (e1 _).trans t3, (e2 _).trans t4, (e2 _).trans t5, (e2 _).trans t6, (e2 _).trans t7⟩
        have HDr : Hid (∀ w9 : World, Below V0.drew.heap.size V0.drew w9 → Below V0.heap.size V0 w9) := fun w9 h => ⟨h.os, h.tape, h.output, h.size, h.block⟩
        have hwr : IntKind.i64.wrap (kp : Int) = (kp : Int) := by rw [IntKind.wrap_i64]; omega
        have hkp4 : kp + 1 < 5 := hk
        clear b0 b1 b2 b3 hcg hBV0 kV k0 k1 k2 k3 hP c0 c1 c2 c3
        refine wp_region_held_drew (S := fun X : World => X.cell? ⟨g, kp * 4, none⟩ = some (.string nm2) ∧ X.cell? ⟨g, kp * 4 + 1, none⟩ = some (.int .i64 ar2) ∧ X.cell? ⟨g, kp * 4 + 2, none⟩ = some (.string ty2) ∧ X.cell? ⟨g, kp * 4 + 3, none⟩ = some (.int .i64 tg2) ∧ X.cell? ⟨P, 0, none⟩ = some (.string nm) ∧ X.cell? ⟨P, 1, none⟩ = some (.int .i64 ar) ∧ X.cell? ⟨P, 2, none⟩ = some (.string ty) ∧ X.cell? ⟨P, 3, none⟩ = some (.int .i64 tg)) (by kernel_rfl) s5d (fun hHeld => ?_)
        clear s5d
        refine wpAnyH_take (i := 0) (v := .int .i64 ((kp : Int) + 1)) rfl (by kernel_rfl) (by kernel_rfl) (by kernel_rfl) (fun _ _ _ h => h) (Or.inl ⟨by kernel_rfl, fun X hX => ?_⟩) (by assumption) ?_
        · (try dsimp only at hX); go_simp <;> (first | done | omega | exact hwr | (intro h9; omega))
        try simp only [Act.put, List.setIfInBounds_toArray]
        refine wpAnyH_take (i := 1) (v := .bool false) rfl (by kernel_rfl) (by kernel_rfl) (by kernel_rfl) (fun _ _ _ h => h) (Or.inl ⟨by kernel_rfl, fun X hX => ?_⟩) (by assumption) ?_
        · (try dsimp only at hX); go_simp <;> (first | done | omega | exact hwr | (intro h9; omega))
        try simp only [Act.put]
        refine wpAnyH_take (i := 2) (v := .bool false) rfl (by kernel_rfl) (by kernel_rfl) (by kernel_rfl) (fun _ _ _ h => h) (Or.inl ⟨by kernel_rfl, fun X hX => ?_⟩) (by assumption) ?_
        · (try dsimp only at hX); go_simp <;> (first | done | omega | exact hwr | (intro h9; omega))
        try simp only [Act.put]
        refine wpAnyH_take (i := 3) (v := undef) rfl (by kernel_rfl) (by kernel_rfl) (by kernel_rfl) (fun _ _ _ h => h) (Or.inr ⟨by kernel_rfl, rfl⟩) (by assumption) ?_
        simp only [Act.put, List.getElem_toArray, List.getElem_cons_succ, List.getElem_cons_zero, List.setIfInBounds_toArray, List.set_cons_zero, List.set_cons_succ]
        refine wpAnyH_take (i := 4) (v := undef) rfl (by kernel_rfl) (by kernel_rfl) (by kernel_rfl) (fun _ _ _ h => h) (Or.inr ⟨by kernel_rfl, rfl⟩) (by assumption) ?_
        simp only [Act.put, List.getElem_toArray, List.getElem_cons_succ, List.getElem_cons_zero, List.setIfInBounds_toArray, List.set_cons_zero, List.set_cons_succ]
        refine wpAnyH_take (i := 5) (v := undef) rfl (by kernel_rfl) (by kernel_rfl) (by kernel_rfl) (fun _ _ _ h => h) (Or.inr ⟨by kernel_rfl, rfl⟩) (by assumption) ?_
        simp only [Act.put, List.getElem_toArray, List.getElem_cons_succ, List.getElem_cons_zero, List.setIfInBounds_toArray, List.set_cons_zero, List.set_cons_succ]
        refine wpAnyH_take (i := 6) (v := .bool false) rfl (by kernel_rfl) (by kernel_rfl) (by kernel_rfl) (fun _ _ _ h => h) (Or.inl ⟨by kernel_rfl, fun X hX => ?_⟩) (by assumption) ?_
        · (try dsimp only at hX); go_simp <;> (first | done | omega | exact hwr | (intro h9; omega))
        try simp only [Act.put, List.setIfInBounds_toArray]
        refine wpAnyH_take (i := 7) (v := .bool false) rfl (by kernel_rfl) (by kernel_rfl) (by kernel_rfl) (fun _ _ _ h => h) (Or.inl ⟨by kernel_rfl, fun X hX => ?_⟩) (by assumption) ?_
        · (try dsimp only at hX); go_simp <;> (first | done | omega | exact hwr | (intro h9; omega))
        try simp only [Act.put]
        refine wpAnyH_take (i := 8) (v := .int .i64 ((kp : Int) + 1)) rfl (by kernel_rfl) (by kernel_rfl) (by kernel_rfl) (fun _ _ _ h => h) (Or.inl ⟨by kernel_rfl, fun X hX => ?_⟩) (by assumption) ?_
        · (try dsimp only at hX); go_simp <;> (first | done | omega | exact hwr | (intro h9; omega))
        try simp only [Act.put]
        refine wpAnyH_take (i := 9) (v := .bool true) rfl (by kernel_rfl) (by kernel_rfl) (by kernel_rfl) (fun _ _ _ h => h) (Or.inl ⟨by kernel_rfl, fun X hX => ?_⟩) (by assumption) ?_
        · (try dsimp only at hX); go_simp <;> (first | done | omega | exact hwr | (intro h9; omega))
        try simp only [Act.put]
        refine wpAnyH_take (i := 10) (v := .bool true) rfl (by kernel_rfl) (by kernel_rfl) (by kernel_rfl) (fun _ _ _ h => h) (Or.inl ⟨by kernel_rfl, fun X hX => ?_⟩) (by assumption) ?_
        · (try dsimp only at hX); go_simp <;> (first | done | omega | exact hwr | (intro h9; omega))
        try simp only [Act.put]
        refine wpAnyH_take (i := 11) (v := .slice (some ⟨g, 0, none⟩) 5 cap) rfl (by kernel_rfl) (by kernel_rfl) (by kernel_rfl) (fun _ _ _ h => h) (Or.inl ⟨by kernel_rfl, fun X hX => ?_⟩) (by assumption) ?_
        · (try dsimp only at hX); go_simp <;> (first | done | omega | exact hwr | (intro h9; omega))
        try simp only [Act.put]
        refine wpAnyH_take (i := 12) (v := .int .i64 ((kp : Int) + 1)) rfl (by kernel_rfl) (by kernel_rfl) (by kernel_rfl) (fun _ _ _ h => h) (Or.inl ⟨by kernel_rfl, fun X hX => ?_⟩) (by assumption) ?_
        · (try dsimp only at hX); go_simp <;> (first | done | omega | exact hwr | (intro h9; omega))
        try simp only [Act.put]
        refine wpAnyH_take (i := 13) (v := .int .i64 (kp : Int)) rfl (by kernel_rfl) (by kernel_rfl) (by kernel_rfl) (fun _ _ _ h => h) (Or.inl ⟨by kernel_rfl, fun X hX => ?_⟩) (by assumption) ?_
        · (try dsimp only at hX); go_simp <;> (first | done | omega | exact hwr | (intro h9; omega))
        try simp only [Act.put]
        refine wpAnyH_take (i := 14) (v := .pointer (some ⟨g, kp * 4, none⟩)) rfl (by kernel_rfl) (by kernel_rfl) (by kernel_rfl) (fun _ _ _ h => h) (Or.inl ⟨by kernel_rfl, fun X hX => ?_⟩) (by assumption) ?_
        · (try dsimp only at hX); go_simp <;> (first | done | omega | exact hwr | (intro h9; omega))
        try simp only [Act.put]
        refine wpAnyH_take (i := 15) (v := .agg #[.string nm2, .int .i64 ar2, .string ty2, .int .i64 tg2]) rfl (by kernel_rfl) (by kernel_rfl) (by kernel_rfl) (fun _ _ _ h => h) (Or.inl ⟨by kernel_rfl, fun X hX => ?_⟩) (by assumption) ?_
        · (try dsimp only at hX); go_simp <;> (first | done | omega | exact hwr | (intro h9; omega))
        try simp only [Act.put]
        refine wpAnyH_take (i := 16) (v := .agg #[.string nm, .int .i64 ar, .string ty, .int .i64 tg]) rfl (by kernel_rfl) (by kernel_rfl) (by kernel_rfl) (fun _ _ _ h => h) (Or.inl ⟨by kernel_rfl, fun X hX => ?_⟩) (by assumption) ?_
        · (try dsimp only at hX); go_simp <;> (first | done | omega | exact hwr | (intro h9; omega))
        try simp only [Act.put]
        refine wpAnyH_ready (rs := [17]) (by kernel_rfl) (by simp) ?_
        refine AllReadyH.cons (o := _) rfl (fun K hK => ?_) AllReadyH.nil
        go_simp
        go_at_call 78
        refine (HFo.out _).mono ?_
        rintro e w9 ⟨rfl, hb9⟩
        refine hK.out _ _ (HSk.out w9 hb9) (fun hHeld9 => ?_)
        have HB9 : Hid (Below V0.heap.size V0 w9) := HDr.out w9 hb9
        clear hK K hb9 hHeld
        try simp only [Act.put, List.setIfInBounds_toArray, List.set_cons_zero, List.set_cons_succ]
        refine wpAnyH_take (i := 18) (v := .bool false) rfl (by kernel_rfl) (by kernel_rfl) (by kernel_rfl) (fun _ _ _ h => h) (Or.inl ⟨by kernel_rfl, fun X hX => ?_⟩) (by assumption) ?_
        · (try dsimp only at hX); go_simp <;> (first | done | omega | exact hwr | (intro h9; omega))
        try simp only [Act.put, List.setIfInBounds_toArray]
        refine wpAnyH_take (i := 19) (v := .bool false) rfl (by kernel_rfl) (by kernel_rfl) (by kernel_rfl) (fun _ _ _ h => h) (Or.inl ⟨by kernel_rfl, fun X hX => ?_⟩) (by assumption) ?_
        · (try dsimp only at hX); go_simp <;> (first | done | omega | exact hwr | (intro h9; omega))
        try simp only [Act.put]
        refine wpAnyH_take (i := 20) (v := .bool false) rfl (by kernel_rfl) (by kernel_rfl) (by kernel_rfl) (fun _ _ _ h => h) (Or.inl ⟨by kernel_rfl, fun X hX => ?_⟩) (by assumption) ?_
        · (try dsimp only at hX); go_simp <;> (first | done | omega | exact hwr | (intro h9; omega))
        try simp only [Act.put]
        refine wpAnyH_done (by kernel_rfl) ?_ _
        obtain ⟨arr, r1, r2, r3⟩ := HI.out.2.1
        have hB9 := HB9.out
        have hBw : Below wr.heap.size wr w9 := HBV0.out.trans (hB9.mono HBV0.out.size)
        have r1V := r1.below hBw
        obtain ⟨old, hold⟩ : ∃ old, arr[kp + 1]? = some old := ⟨_, Array.getElem?_eq_getElem (by omega)⟩
        have q1 := r1V.cell _ _ hold
        have q2 := r1V.frozen (kp + 1)
        have q3 : w.heap.size < w9.heap.size := r1V.lt
        have q4 : w9.cell? ⟨P, 0, none⟩ = some (.string nm) := by
          have := (HkV.out.below hB9).cell 0 _ rfl
          rw [HP.out] at this; exact this
        have q5 : P < w9.heap.size := Nat.lt_of_lt_of_le lP hB9.size
        have HBV : Hid (Below wr.heap.size wr w9) := hBw
        have HNm : Hid (∃ h : kp + 1 < bi7.length, bi7[kp + 1].1 = nm) := ⟨hkl, by rw [hnn]⟩
        clear r1 r2 r3 r1V hold hB9 hBw n1 n2 hgr hnn HIs HSk HDr HFo hHeld9 lP lg
        go_wp2
        refine ⟨⟨kp + 1 + 1, by congr 1, ?_⟩, ?_⟩
        · obtain ⟨u1, u2⟩ := HNm.out
          exact HI.out.next HBV.out u1 nm u2
        · show 5 - ((kp : Int) + 1 + 1).toNat < 5 - ((kp : Int) + 1).toNat
          omega
    · have hki : ¬ (k : Int) < 5 := by omega
      have hk5 : k = 5 := by have := HI.out.1; omega
      subst hk5
      clear hk
      have HC : Hid (Calls Tryz.prog 79 #[.slice (some ⟨w.heap.size, 0, none⟩) 5 5] wr fun e w' => e = .returned (.bool true) ∧ Below w.heap.size w w' ∧ Calls Tryz.prog 81 #[.slice (some ⟨g, 0, none⟩) 5 cap] w' fun r w2 => ∃ o2 c2, r = .returned (.slice o2 5 c2) ∧ Below w.heap.size w w2 ∧ Calls Tryz.prog 7 #[] w2 fun r w3 => ∃ g3, r = .returned (.slice (some ⟨g3, 0, none⟩) 5 5) ∧ Below w.heap.size w w3 ∧ Calls Tryz.prog 80 #[.slice o2 5 c2, .slice (some ⟨g3, 0, none⟩) 5 5] w3 fun r w4 => r = .returned (.bool true) ∧ Below w.heap.size w w4) := HAn.out wr HI.out
      clear HAn HI
      go_wp2_with (go_at_call 79; fail)
      refine HC.out.mono ?_
      rintro e w1 ⟨rfl, -, hc1⟩
      have HC1 : Hid (Calls Tryz.prog 81 #[.slice (some ⟨g, 0, none⟩) 5 cap] w1 fun r w2 => ∃ o2 c2, r = .returned (.slice o2 5 c2) ∧ Below w.heap.size w w2 ∧ Calls Tryz.prog 7 #[] w2 fun r w3 => ∃ g3, r = .returned (.slice (some ⟨g3, 0, none⟩) 5 5) ∧ Below w.heap.size w w3 ∧ Calls Tryz.prog 80 #[.slice o2 5 c2, .slice (some ⟨g3, 0, none⟩) 5 5] w3 fun r w4 => r = .returned (.bool true) ∧ Below w.heap.size w w4) := hc1
      clear hc1 HC
      go_wp2_with (go_at_call 81; fail)
      refine HC1.out.mono ?_
      rintro e w2 ⟨o2, c2, rfl, -, hc2⟩
      have HC2 : Hid (Calls Tryz.prog 7 #[] w2 fun r w3 => ∃ g3, r = .returned (.slice (some ⟨g3, 0, none⟩) 5 5) ∧ Below w.heap.size w w3 ∧ Calls Tryz.prog 80 #[.slice o2 5 c2, .slice (some ⟨g3, 0, none⟩) 5 5] w3 fun r w4 => r = .returned (.bool true) ∧ Below w.heap.size w w4) := hc2
      clear hc2 HC1
      go_wp2_with (go_at_call 7; fail)
      refine HC2.out.mono ?_
      rintro e w3 ⟨g3, rfl, -, hc3⟩
      have HC3 : Hid (Calls Tryz.prog 80 #[.slice o2 5 c2, .slice (some ⟨g3, 0, none⟩) 5 5] w3 fun r w4 => r = .returned (.bool true) ∧ Below w.heap.size w w4) := hc3
      clear hc3 HC2
      go_wp2_with (go_at_call 80; fail)
      refine HC3.out.mono ?_
      rintro e w4 ⟨rfl, hb4⟩
      have HB4 : Hid (Below w.heap.size w w4) := hb4
      clear hb4 HC3
      go_wp2
      go_ret
      exact ⟨rfl, HB4.out⟩
end Go.Proofs.YtegdloenakachaaGreatDoor

namespace Go.Proofs
open Go.Shelf
def Tryz.hLaysMn171_ren : Go.Shelf.Ren := ⟨fun | 129 => 153 | 171 => 164 | 243 => 180 | 246 => 160 | 283 => 174 | 284 => 175 | 285 => 176 | 286 => 177 | 317 => 182 | 318 => 183 | 319 => 184 | 320 => 185 | 337 => 188 | 338 => 189 | n => n, fun | 0 => 0 | 2 => 2 | 3 => 3 | 4 => 4 | 5 => 5 | 9 => 9 | 20 => 20 | 37 => 90 | 46 => 153 | 51 => 187 | 53 => 189 | 171 => 208 | 173 => 210 | 212 => 218 | 213 => 219 | 232 => 224 | 233 => 225 | n => n, fun | 17 => 0 | 18 => 2 | 19 => 3 | n => n⟩
theorem Tryz.hLaysMn171 : Go.Proofs.LaysM.n171 Tryz.prog Tryz.hLaysMn171_ren := {
  mixed := by kernel_rfl
  f129 := Tryz.func153.trans (congrArg some (by kernel_rfl))
  f171 := Tryz.func164.trans (congrArg some (by kernel_rfl))
  f243 := Tryz.func180.trans (congrArg some (by kernel_rfl))
  f246 := Tryz.func160.trans (congrArg some (by kernel_rfl))
  f283 := Tryz.func174.trans (congrArg some (by kernel_rfl))
  f284 := Tryz.func175.trans (congrArg some (by kernel_rfl))
  f285 := Tryz.func176.trans (congrArg some (by kernel_rfl))
  f286 := Tryz.func177.trans (congrArg some (by kernel_rfl))
  f317 := Tryz.func182.trans (congrArg some (by kernel_rfl))
  f318 := Tryz.func183.trans (congrArg some (by kernel_rfl))
  f319 := Tryz.func184.trans (congrArg some (by kernel_rfl))
  f320 := Tryz.func185.trans (congrArg some (by kernel_rfl))
  f337 := Tryz.func188.trans (congrArg some (by kernel_rfl))
  f338 := Tryz.func189.trans (congrArg some (by kernel_rfl))
  t0 := Tryz.underlying0
  a0 := Tryz.isAgg0
  z0 := Tryz.sizeOf0
  v0 := Tryz.zeroValue0
  t2 := Tryz.underlying2
  a2 := Tryz.isAgg2
  z2 := Tryz.sizeOf2
  v2 := Tryz.zeroValue2
  t3 := Tryz.underlying3
  a3 := Tryz.isAgg3
  z3 := Tryz.sizeOf3
  v3 := Tryz.zeroValue3
  t4 := Tryz.underlying4
  a4 := Tryz.isAgg4
  z4 := Tryz.sizeOf4
  v4 := Tryz.zeroValue4
  t5 := Tryz.underlying5
  a5 := Tryz.isAgg5
  z5 := Tryz.sizeOf5
  v5 := Tryz.zeroValue5
  t9 := Tryz.underlying9
  a9 := Tryz.isAgg9
  z9 := Tryz.sizeOf9
  v9 := Tryz.zeroValue9
  t20 := Tryz.underlying20
  a20 := Tryz.isAgg20
  z20 := Tryz.sizeOf20
  v20 := Tryz.zeroValue20
  t37 := Tryz.underlying90
  a37 := Tryz.isAgg90
  z37 := Tryz.sizeOf90
  v37 := Tryz.zeroValue90
  t46 := Tryz.underlying153
  a46 := Tryz.isAgg153
  z46 := Tryz.sizeOf153
  v46 := Tryz.zeroValue153
  t51 := Tryz.underlying187
  a51 := Tryz.isAgg187
  z51 := Tryz.sizeOf187
  v51 := Tryz.zeroValue187
  t53 := Tryz.underlying189
  a53 := Tryz.isAgg189
  z53 := Tryz.sizeOf189
  v53 := Tryz.zeroValue189
  t171 := Tryz.underlying208
  a171 := Tryz.isAgg208
  z171 := Tryz.sizeOf208
  v171 := Tryz.zeroValue208
  t173 := Tryz.underlying210
  a173 := Tryz.isAgg210
  z173 := Tryz.sizeOf210
  v173 := Tryz.zeroValue210
  t212 := Tryz.underlying218
  a212 := Tryz.isAgg218
  z212 := Tryz.sizeOf218
  v212 := Tryz.zeroValue218
  t213 := Tryz.underlying219
  a213 := Tryz.isAgg219
  z213 := Tryz.sizeOf219
  t232 := Tryz.underlying224
  a232 := Tryz.isAgg224
  z232 := Tryz.sizeOf224
  v232 := Tryz.zeroValue224
  t233 := Tryz.underlying225
  a233 := Tryz.isAgg225
  z233 := Tryz.sizeOf225
  v233 := Tryz.zeroValue225
  g17 := by kernel_rfl
  g18 := by kernel_rfl
  g19 := by kernel_rfl
  i0 := by kernel_rfl
  i2 := by kernel_rfl
  i3 := by kernel_rfl
  i4 := by kernel_rfl
  i5 := by kernel_rfl
  i9 := by kernel_rfl
  i20 := by kernel_rfl
  i37 := by kernel_rfl
  i46 := by kernel_rfl
  i51 := by kernel_rfl
  i53 := by kernel_rfl
  i171 := by kernel_rfl
  i173 := by kernel_rfl
  i212 := by kernel_rfl
  i232 := by kernel_rfl
  i233 := by kernel_rfl
  m17 := by kernel_rfl
  m18 := by kernel_rfl
  m19 := by kernel_rfl }
def Tryz.hLaysMn173_ren : Go.Shelf.Ren := ⟨fun | 129 => 153 | 173 => 133 | 246 => 160 | 283 => 174 | 284 => 175 | 285 => 176 | 286 => 177 | 317 => 182 | 318 => 183 | 319 => 184 | 320 => 185 | 337 => 188 | 338 => 189 | n => n, fun | 0 => 0 | 2 => 2 | 3 => 3 | 4 => 4 | 5 => 5 | 9 => 9 | 20 => 20 | 37 => 90 | 46 => 153 | 51 => 187 | 53 => 189 | 171 => 208 | 173 => 210 | 212 => 218 | 213 => 219 | 232 => 224 | 233 => 225 | n => n, fun | 17 => 0 | 18 => 2 | 19 => 3 | n => n⟩
theorem Tryz.hLaysMn173 : Go.Proofs.LaysM.n173 Tryz.prog Tryz.hLaysMn173_ren := {
  mixed := by kernel_rfl
  f129 := Tryz.func153.trans (congrArg some (by kernel_rfl))
  f173 := Tryz.func133.trans (congrArg some (by kernel_rfl))
  f246 := Tryz.func160.trans (congrArg some (by kernel_rfl))
  f283 := Tryz.func174.trans (congrArg some (by kernel_rfl))
  f284 := Tryz.func175.trans (congrArg some (by kernel_rfl))
  f285 := Tryz.func176.trans (congrArg some (by kernel_rfl))
  f286 := Tryz.func177.trans (congrArg some (by kernel_rfl))
  f317 := Tryz.func182.trans (congrArg some (by kernel_rfl))
  f318 := Tryz.func183.trans (congrArg some (by kernel_rfl))
  f319 := Tryz.func184.trans (congrArg some (by kernel_rfl))
  f320 := Tryz.func185.trans (congrArg some (by kernel_rfl))
  f337 := Tryz.func188.trans (congrArg some (by kernel_rfl))
  f338 := Tryz.func189.trans (congrArg some (by kernel_rfl))
  t0 := Tryz.underlying0
  a0 := Tryz.isAgg0
  z0 := Tryz.sizeOf0
  v0 := Tryz.zeroValue0
  t2 := Tryz.underlying2
  a2 := Tryz.isAgg2
  z2 := Tryz.sizeOf2
  v2 := Tryz.zeroValue2
  t3 := Tryz.underlying3
  a3 := Tryz.isAgg3
  z3 := Tryz.sizeOf3
  v3 := Tryz.zeroValue3
  t4 := Tryz.underlying4
  a4 := Tryz.isAgg4
  z4 := Tryz.sizeOf4
  v4 := Tryz.zeroValue4
  t5 := Tryz.underlying5
  a5 := Tryz.isAgg5
  z5 := Tryz.sizeOf5
  v5 := Tryz.zeroValue5
  t9 := Tryz.underlying9
  a9 := Tryz.isAgg9
  z9 := Tryz.sizeOf9
  v9 := Tryz.zeroValue9
  t20 := Tryz.underlying20
  a20 := Tryz.isAgg20
  z20 := Tryz.sizeOf20
  v20 := Tryz.zeroValue20
  t37 := Tryz.underlying90
  a37 := Tryz.isAgg90
  z37 := Tryz.sizeOf90
  v37 := Tryz.zeroValue90
  t46 := Tryz.underlying153
  a46 := Tryz.isAgg153
  z46 := Tryz.sizeOf153
  v46 := Tryz.zeroValue153
  t51 := Tryz.underlying187
  a51 := Tryz.isAgg187
  z51 := Tryz.sizeOf187
  v51 := Tryz.zeroValue187
  t53 := Tryz.underlying189
  a53 := Tryz.isAgg189
  z53 := Tryz.sizeOf189
  v53 := Tryz.zeroValue189
  t171 := Tryz.underlying208
  a171 := Tryz.isAgg208
  z171 := Tryz.sizeOf208
  v171 := Tryz.zeroValue208
  t173 := Tryz.underlying210
  a173 := Tryz.isAgg210
  z173 := Tryz.sizeOf210
  v173 := Tryz.zeroValue210
  t212 := Tryz.underlying218
  a212 := Tryz.isAgg218
  z212 := Tryz.sizeOf218
  v212 := Tryz.zeroValue218
  t213 := Tryz.underlying219
  a213 := Tryz.isAgg219
  z213 := Tryz.sizeOf219
  t232 := Tryz.underlying224
  a232 := Tryz.isAgg224
  z232 := Tryz.sizeOf224
  v232 := Tryz.zeroValue224
  t233 := Tryz.underlying225
  a233 := Tryz.isAgg225
  z233 := Tryz.sizeOf225
  v233 := Tryz.zeroValue225
  g17 := by kernel_rfl
  g18 := by kernel_rfl
  g19 := by kernel_rfl
  i0 := by kernel_rfl
  i2 := by kernel_rfl
  i3 := by kernel_rfl
  i4 := by kernel_rfl
  i5 := by kernel_rfl
  i9 := by kernel_rfl
  i20 := by kernel_rfl
  i37 := by kernel_rfl
  i46 := by kernel_rfl
  i51 := by kernel_rfl
  i53 := by kernel_rfl
  i171 := by kernel_rfl
  i173 := by kernel_rfl
  i212 := by kernel_rfl
  i232 := by kernel_rfl
  i233 := by kernel_rfl
  m17 := by kernel_rfl
  m18 := by kernel_rfl
  m19 := by kernel_rfl }
open Go.RowKit Go.Sort Go.Lib in
theorem Tryz.strconv_Itoa (n : Int) (h0 : -9223372036854775808 ≤ n) (h1 : n ≤ 9223372036854775807) (w : World) (htab : Lib.TabIs Tryz.prog w "internal/strconv.uint64pow10" .u64 Lib.pow10Tab) :
    Calls Tryz.prog 164 #[.int .i64 n] w fun e w' => e = .returned (.string ⟨(Lib.itoa n).toArray⟩) ∧ ∃ k os, w' = grow (w.drewN k) os := Any.strconv_Itoa Tryz.hLaysMn171 n h0 h1 w htab
open Go.RowKit Go.Sort Go.Lib in
theorem Tryz.strconv_FormatInt (n : Int) (h0 : -9223372036854775808 ≤ n) (h1 : n ≤ 9223372036854775807) (w : World) (htab : Lib.TabIs Tryz.prog w "internal/strconv.uint64pow10" .u64 Lib.pow10Tab) :
    Calls Tryz.prog 133 #[.int .i64 n, .int .i64 10] w fun e w' => e = .returned (.string ⟨(Lib.itoa n).toArray⟩) ∧ ∃ k os, w' = grow (w.drewN k) os := Any.strconv_FormatInt_10 Tryz.hLaysMn173 n h0 h1 w htab
end Go.Proofs
