/-
  copied, by a contract, for every depth.
  What stands in a name's place, by a contract.
-/
import Derived.Test.YtegdloenakachaaGreatDoorCN20
namespace Go.Proofs.YtegdloenakachaaGreatDoor
open Go.RowKit Go.Shelf Go.Maps
set_option linter.unusedVariables false

theorem OwTx.below {w W : World} {lo hi : Nat} {o : Option Addr} {l : List ByteArray} (h : OwTx w lo hi o l) (hb : ∀ k, lo ≤ k → k < hi → W.heap[k]? = w.heap[k]?) : OwTx W lo hi o l := h.same hb
theorem bd_same {w W : World} {d : Nat} {lo hi : Nat} {o : Option Addr} {l : List (ByteArray × Tr d)} (h : OwRow w lo hi 8 (OwBd w d) o l) (hb : ∀ k, lo ≤ k → k < hi → W.heap[k]? = w.heap[k]?) : OwRow W lo hi 8 (OwBd W d) o l := by
  refine h.same hb ?_
  rintro x g off a b hg1 hg2 ha hb2 ⟨e1, e2⟩
  have hc := fun j => cell_of_block (hb g (by omega) (by omega)) j
  exact ⟨(hc _).trans e1, OwEx.same d _ _ _ _ _ e2 (fun q _ => hc _) (fun k h1 h2 => hb k (by omega) (by omega))⟩
theorem ex_same {w W : World} {d : Nat} {lo hi : Nat} {o : Option Addr} {l : List (Tr d)} (h : OwRow w lo hi 7 (OwEx w d) o l) (hb : ∀ k, lo ≤ k → k < hi → W.heap[k]? = w.heap[k]?) : OwRow W lo hi 7 (OwEx W d) o l := by
  refine h.same hb ?_
  intro x g off a b hg1 hg2 ha hb2 e
  have hc := fun j => cell_of_block (hb g (by omega) (by omega)) j
  exact OwEx.same d _ _ _ _ _ e (fun q _ => hc _) (fun k h1 h2 => hb k (by omega) (by omega))
theorem al_same {w W : World} {d : Nat} {lo hi : Nat} {o : Option Addr} {l : List (AltH × Tr d)} (h : OwRow w lo hi 11 (OwAl w d) o l) (hb : ∀ k, lo ≤ k → k < hi → W.heap[k]? = w.heap[k]?) : OwRow W lo hi 11 (OwAl W d) o l := by
  refine h.same hb ?_
  rintro x g off a b hg1 hg2 ha hb2 ⟨e1, e2, e3, m, q1, q2, ⟨o, c, e4, e5⟩, e6⟩
  have hc := fun j => cell_of_block (hb g (by omega) (by omega)) j
  exact ⟨(hc _).trans e1, (hc _).trans e2, (hc _).trans e3, m, q1, q2, ⟨o, c, (hc _).trans e4, e5.same (fun k h1 h2 => hb k (by omega) (by omega))⟩, OwEx.same d _ _ _ _ _ e6 (fun q _ => hc _) (fun k h1 h2 => hb k (by omega) (by omega))⟩
theorem Blk.all7 {W : World} {B : Nat} {v0 v1 v2 v3 v4 v5 v6 : Value} {T : TypeId} (h : Blk W B #[v0, v1, v2, v3, v4, v5, v6] T) : (W.cell? ⟨B, 0, none⟩ = some v0 ∧ W.cell? ⟨B, 1, none⟩ = some v1 ∧ W.cell? ⟨B, 2, none⟩ = some v2 ∧ W.cell? ⟨B, 3, none⟩ = some v3 ∧ W.cell? ⟨B, 4, none⟩ = some v4 ∧ W.cell? ⟨B, 5, none⟩ = some v5 ∧ W.cell? ⟨B, 6, none⟩ = some v6) ∧ W.frozen? ⟨B, 0, none⟩ = false ∧ W.frozen? ⟨B, 1, none⟩ = false ∧ W.frozen? ⟨B, 2, none⟩ = false ∧ W.frozen? ⟨B, 3, none⟩ = false ∧ W.frozen? ⟨B, 4, none⟩ = false ∧ W.frozen? ⟨B, 5, none⟩ = false ∧ W.frozen? ⟨B, 6, none⟩ = false := ⟨⟨h.cell 0 _ rfl, h.cell 1 _ rfl, h.cell 2 _ rfl, h.cell 3 _ rfl, h.cell 4 _ rfl, h.cell 5 _ rfl, h.cell 6 _ rfl⟩, h.frozen 0, h.frozen 1, h.frozen 2, h.frozen 3, h.frozen 4, h.frozen 5, h.frozen 6⟩
theorem Blk.but {W : World} {B b : Nat} {vs : Array Value} {T : TypeId} (h : Blk W B vs T) (j : Nat) (u : Value) (hn : B ≠ b) : Blk (W.setCell ⟨b, j, none⟩ u) B vs T := by
  unfold Blk; rw [heap_set_other _ _ _ _ _ hn]; exact h
set_option maxRecDepth 100000 in
set_option maxHeartbeats 4000000 in
theorem copied_step (d : Nat) (ih : CpyOK d) : CpyOK (d + 1) := by
  intro t B g off w hE hw hF
  obtain ⟨hg, h0, h1, h2, ⟨o3, c3, h3, k3⟩, ⟨o4, c4, h4, k4⟩, ⟨o5, c5, h5, k5⟩, ⟨o6, c6, h6, k6⟩⟩ := hE
  obtain ⟨hF0, hFb, hFa, hFl⟩ := hF
  obtain ⟨f1, ⟨f2, -⟩, ⟨f3, -⟩, f4, f5, f6⟩ := hF0
  have hgw : g < w.heap.size := by omega
  have hsm : ∀ (W : World), Below w.heap.size w W → ∀ g off, g < B → W.cell? ⟨g, off, none⟩ = w.cell? ⟨g, off, none⟩ := fun W hW g off hg => cell_of_block (hW.block g (by omega)) off
  have HP : Hid (∀ W, Below w.heap.size w W → Calls Tryz.prog 54 #[.slice o3 (TrN.params t).length c3] W fun r w' => TxPost W (TrN.params t) (TrN.params t).length r w') := fun W hW => cloneTx_c _ o3 c3 B W (k3.same (hsm W hW)) f2
  have HB : Hid (∀ W, Below w.heap.size w W → Calls Tryz.prog 55 #[.slice o4 (TrN.binds t).length c4] W fun r w' => CrPost W 8 (fun W => OwBd W d) (TrN.binds t) (TrN.binds t).length r w') := fun W hW => copiedBinds_c d ih _ o4 c4 B W (k4.mono (fun x g off hg h => ⟨(hsm W hW _ _ hg).trans h.1, ExAt.same (hsm W hW) d _ _ _ h.2⟩)) (Nat.le_trans hw hW.size) f3 hFb
  have HA : Hid (∀ W, Below w.heap.size w W → Calls Tryz.prog 56 #[.slice o5 (TrN.args t).length c5] W fun r w' => CrPost W 7 (fun W => OwEx W d) (TrN.args t) (TrN.args t).length r w') := fun W hW => copiedExprs_c d ih _ o5 c5 B W (k5.mono (fun x g off hg h => ExAt.same (hsm W hW) d _ _ _ h)) (Nat.le_trans hw hW.size) f4 hFa
  have HL : Hid (∀ W, Below w.heap.size w W → Calls Tryz.prog 57 #[.slice o6 (TrN.alts t).length c6] W fun r w' => CrPost W 11 (fun W => OwAl W d) (TrN.alts t) (TrN.alts t).length r w') := fun W hW => copiedAlts_c d ih _ o6 c6 B W (k6.mono (fun x g off hg h => AltAt.same (hsm W hW) h)) (Nat.le_trans hw hW.size) f5 (fun x hx => ⟨hFl x hx, (f6 x hx).2.1⟩)
  obtain ⟨P, hP⟩ : ∃ P, TrN.params t = P := ⟨_, rfl⟩
  obtain ⟨Bs, hBs⟩ : ∃ Bs, TrN.binds t = Bs := ⟨_, rfl⟩
  obtain ⟨As, hAs⟩ : ∃ As, TrN.args t = As := ⟨_, rfl⟩
  obtain ⟨Ls, hLs⟩ : ∃ Ls, TrN.alts t = Ls := ⟨_, rfl⟩
  have HT : Hid (TrN.params t = P ∧ TrN.binds t = Bs ∧ TrN.args t = As ∧ TrN.alts t = Ls) := ⟨hP, hBs, hAs, hLs⟩
  rw [hP] at HP h3
  rw [hBs] at HB h4
  rw [hAs] at HA h5
  rw [hLs] at HL h6
  clear k3 k4 k5 k6 hsm hP hBs hAs hLs f1 f2 f3 f4 f5 f6 hFb hFa hFl hw hg ih
  obtain ⟨kd, hkd⟩ : ∃ kd, TrN.kind t = kd := ⟨_, rfl⟩
  obtain ⟨nm, hnm⟩ : ∃ nm, TrN.name t = nm := ⟨_, rfl⟩
  obtain ⟨nu, hnu⟩ : ∃ nu, TrN.num t = nu := ⟨_, rfl⟩
  rw [hkd] at h0
  rw [hnm] at h1
  rw [hnu] at h2
  have HT2 : Hid (TrN.kind t = kd ∧ TrN.name t = nm ∧ TrN.num t = nu) := ⟨hkd, hnm, hnu⟩
  clear hkd hnm hnu
  obtain ⟨n3, hn3⟩ : ∃ n, P.length = n := ⟨_, rfl⟩
  obtain ⟨n4, hn4⟩ : ∃ n, Bs.length = n := ⟨_, rfl⟩
  obtain ⟨n5, hn5⟩ : ∃ n, As.length = n := ⟨_, rfl⟩
  obtain ⟨n6, hn6⟩ : ∃ n, Ls.length = n := ⟨_, rfl⟩
  have HLn : Hid (P.length = n3 ∧ Bs.length = n4 ∧ As.length = n5 ∧ Ls.length = n6) := ⟨hn3, hn4, hn5, hn6⟩
  rw [hn3] at HP h3
  rw [hn4] at HB h4
  rw [hn5] at HA h5
  rw [hn6] at HL h6
  clear hn3 hn4 hn5 hn6
  obtain ⟨R, hR⟩ : ∃ R, w.heap.size = R := ⟨_, rfl⟩
  obtain ⟨C, hC⟩ : ∃ C, w.heap.size + 1 = C := ⟨_, rfl⟩
  have HRC : Hid (w.heap.size = R ∧ w.heap.size + 1 = C) := ⟨hR, hC⟩
  obtain ⟨W0, hW0⟩ : ∃ W0, (w.alloc (.cells #[.int .i64 0, .string ⟨#[]⟩, .int .i64 0, .slice none 0 0, .slice none 0 0, .slice none 0 0, .slice none 0 0] 31)).alloc (.cells #[.int .i64 kd, .string nm, .int .i64 nu, .slice o3 n3 c3, .slice o4 n4 c4, .slice o5 n5 c5, .slice o6 n6 c6] 31) = W0 := ⟨_, rfl⟩
  have HW0 : Hid (Blk W0 R #[.int .i64 0, .string ⟨#[]⟩, .int .i64 0, .slice none 0 0, .slice none 0 0, .slice none 0 0, .slice none 0 0] 31 ∧ Blk W0 C #[.int .i64 kd, .string nm, .int .i64 nu, .slice o3 n3 c3, .slice o4 n4 c4, .slice o5 n5 c5, .slice o6 n6 c6] 31 ∧ Below w.heap.size w W0) := by
    subst hR hC
    rw [← hW0]
    have hs : (w.alloc (.cells #[.int .i64 0, .string ⟨#[]⟩, .int .i64 0, .slice none 0 0, .slice none 0 0, .slice none 0 0, .slice none 0 0] 31)).heap.size = w.heap.size + 1 := Array.size_push _
    refine ⟨(Blk.new w _ _).alloc _, ?_, (below1 w _).trans ((below1 _ _).mono (below1 w _).size)⟩
    rw [← hs]; exact Blk.new _ _ _
  have HHs : Hid (∀ q, w.cell? ⟨g, off + q, none⟩ = w.cell? ⟨g, off + q, none⟩) := fun q => rfl
  have HH : Hid (w.cell? ⟨g, off + 4, none⟩ = some (.slice o4 n4 c4) ∧ w.cell? ⟨g, off + 5, none⟩ = some (.slice o5 n5 c5) ∧ w.cell? ⟨g, off + 6, none⟩ = some (.slice o6 n6 c6)) := ⟨h4, h5, h6⟩
  have HE0 : Hid (_ = W0) := hW0
  clear hW0 hR hC
  go_enter Tryz.func31, Tryz.ntmps31
  go_wp2_with (go_at_call 54; fail)
  rw [HE0.out, HRC.out.2, HRC.out.1]
  clear h0 h1 h2 h3 h4 h5 h6 HE0
  refine (HP.out W0 HW0.out.2.2).mono ?_
  rintro e V1 ⟨p3, q3, rfl, hT1, hb1⟩
  have HV1 : Hid (Blk V1 R #[.int .i64 0, .string ⟨#[]⟩, .int .i64 0, .slice none 0 0, .slice none 0 0, .slice none 0 0, .slice none 0 0] 31 ∧ Blk V1 C #[.int .i64 kd, .string nm, .int .i64 nu, .slice o3 n3 c3, .slice o4 n4 c4, .slice o5 n5 c5, .slice o6 n6 c6] 31 ∧ Below w.heap.size w V1) := by
    have h1 := HW0.out
    exact ⟨h1.1.below hb1, h1.2.1.below hb1, h1.2.2.trans (hb1.mono h1.2.2.size)⟩
  have HT1 : Hid (OwTx V1 W0.heap.size V1.heap.size p3 P ∧ Below W0.heap.size W0 V1) := ⟨hT1, hb1⟩
  obtain ⟨U1, hU1⟩ : ∃ U1, V1.setCell ⟨C, 3, none⟩ (.slice p3 n3 q3) = U1 := ⟨_, rfl⟩
  have HU1 : Hid (V1.setCell ⟨C, 3, none⟩ (.slice p3 n3 q3) = U1) := hU1
  have HW1 : Hid (Blk U1 R #[.int .i64 0, .string ⟨#[]⟩, .int .i64 0, .slice none 0 0, .slice none 0 0, .slice none 0 0, .slice none 0 0] 31 ∧ Blk U1 C #[.int .i64 kd, .string nm, .int .i64 nu, .slice p3 n3 q3, .slice o4 n4 c4, .slice o5 n5 c5, .slice o6 n6 c6] 31 ∧ Below w.heap.size w U1) := by
    have h1 := HV1.out
    rw [← hU1]
    refine ⟨h1.1.but _ _ (by have := HRC.out; omega), h1.2.1.set 3 _, h1.2.2.setCell (p := ⟨C, 3, none⟩) (by show _ ≤ C; have := HRC.out; omega) _⟩
  have x3 := HV1.out.2.1.cell 3 _ rfl
  have y3 := HV1.out.2.1.frozen 3
  have z1 : C < V1.heap.size := HV1.out.2.1.lt
  have g1 : g < V1.heap.size := Nat.lt_of_lt_of_le hgw HV1.out.2.2.size
  have n1g : V1.cell? ⟨g, off + 4, none⟩ = some (.slice o4 n4 c4) := (cell_of_block (HV1.out.2.2.block g hgw) _).trans HH.out.1
  have m1g : C ≠ g := by have := HRC.out; omega
  clear hT1 hb1 hU1
  go_wp2_with (go_at_call 55; fail)
  rw [HU1.out]
  clear x3 y3 z1 g1 n1g m1g
  refine (HB.out U1 HW1.out.2.2).mono ?_
  rintro e V2 ⟨p4, q4, rfl, hT2, hb2⟩
  have HV2 : Hid (Blk V2 R #[.int .i64 0, .string ⟨#[]⟩, .int .i64 0, .slice none 0 0, .slice none 0 0, .slice none 0 0, .slice none 0 0] 31 ∧ Blk V2 C #[.int .i64 kd, .string nm, .int .i64 nu, .slice p3 n3 q3, .slice o4 n4 c4, .slice o5 n5 c5, .slice o6 n6 c6] 31 ∧ Below w.heap.size w V2) := by
    have h1 := HW1.out
    exact ⟨h1.1.below hb2, h1.2.1.below hb2, h1.2.2.trans (hb2.mono h1.2.2.size)⟩
  have HT2' : Hid (OwRow V2 U1.heap.size V2.heap.size 8 (OwBd V2 d) p4 Bs ∧ Below U1.heap.size U1 V2) := ⟨hT2, hb2⟩
  obtain ⟨U2, hU2⟩ : ∃ U2, V2.setCell ⟨C, 4, none⟩ (.slice p4 n4 q4) = U2 := ⟨_, rfl⟩
  have HU2 : Hid (V2.setCell ⟨C, 4, none⟩ (.slice p4 n4 q4) = U2) := hU2
  have HW2 : Hid (Blk U2 R #[.int .i64 0, .string ⟨#[]⟩, .int .i64 0, .slice none 0 0, .slice none 0 0, .slice none 0 0, .slice none 0 0] 31 ∧ Blk U2 C #[.int .i64 kd, .string nm, .int .i64 nu, .slice p3 n3 q3, .slice p4 n4 q4, .slice o5 n5 c5, .slice o6 n6 c6] 31 ∧ Below w.heap.size w U2) := by
    have h1 := HV2.out
    rw [← hU2]
    refine ⟨h1.1.but _ _ (by have := HRC.out; omega), h1.2.1.set 4 _, h1.2.2.setCell (p := ⟨C, 4, none⟩) (by show _ ≤ C; have := HRC.out; omega) _⟩
  have x4 := HV2.out.2.1.cell 4 _ rfl
  have y4 := HV2.out.2.1.frozen 4
  have z2 : C < V2.heap.size := HV2.out.2.1.lt
  have g2 : g < V2.heap.size := Nat.lt_of_lt_of_le hgw HV2.out.2.2.size
  have n2g : V2.cell? ⟨g, off + 5, none⟩ = some (.slice o5 n5 c5) := (cell_of_block (HV2.out.2.2.block g hgw) _).trans HH.out.2.1
  have m2g : C ≠ g := by have := HRC.out; omega
  clear hT2 hb2 hU2
  go_wp2_with (go_at_call 56; fail)
  rw [HU2.out]
  clear x4 y4 z2 g2 n2g m2g
  refine (HA.out U2 HW2.out.2.2).mono ?_
  rintro e V3 ⟨p5, q5, rfl, hT3, hb3⟩
  have HV3 : Hid (Blk V3 R #[.int .i64 0, .string ⟨#[]⟩, .int .i64 0, .slice none 0 0, .slice none 0 0, .slice none 0 0, .slice none 0 0] 31 ∧ Blk V3 C #[.int .i64 kd, .string nm, .int .i64 nu, .slice p3 n3 q3, .slice p4 n4 q4, .slice o5 n5 c5, .slice o6 n6 c6] 31 ∧ Below w.heap.size w V3) := by
    have h1 := HW2.out
    exact ⟨h1.1.below hb3, h1.2.1.below hb3, h1.2.2.trans (hb3.mono h1.2.2.size)⟩
  have HT3 : Hid (OwRow V3 U2.heap.size V3.heap.size 7 (OwEx V3 d) p5 As ∧ Below U2.heap.size U2 V3) := ⟨hT3, hb3⟩
  obtain ⟨U3, hU3⟩ : ∃ U3, V3.setCell ⟨C, 5, none⟩ (.slice p5 n5 q5) = U3 := ⟨_, rfl⟩
  have HU3 : Hid (V3.setCell ⟨C, 5, none⟩ (.slice p5 n5 q5) = U3) := hU3
  have HW3 : Hid (Blk U3 R #[.int .i64 0, .string ⟨#[]⟩, .int .i64 0, .slice none 0 0, .slice none 0 0, .slice none 0 0, .slice none 0 0] 31 ∧ Blk U3 C #[.int .i64 kd, .string nm, .int .i64 nu, .slice p3 n3 q3, .slice p4 n4 q4, .slice p5 n5 q5, .slice o6 n6 c6] 31 ∧ Below w.heap.size w U3) := by
    have h1 := HV3.out
    rw [← hU3]
    refine ⟨h1.1.but _ _ (by have := HRC.out; omega), h1.2.1.set 5 _, h1.2.2.setCell (p := ⟨C, 5, none⟩) (by show _ ≤ C; have := HRC.out; omega) _⟩
  have x5 := HV3.out.2.1.cell 5 _ rfl
  have y5 := HV3.out.2.1.frozen 5
  have z3 : C < V3.heap.size := HV3.out.2.1.lt
  have g3 : g < V3.heap.size := Nat.lt_of_lt_of_le hgw HV3.out.2.2.size
  have n3g : V3.cell? ⟨g, off + 6, none⟩ = some (.slice o6 n6 c6) := (cell_of_block (HV3.out.2.2.block g hgw) _).trans HH.out.2.2
  have m3g : C ≠ g := by have := HRC.out; omega
  clear hT3 hb3 hU3
  go_wp2_with (go_at_call 57; fail)
  rw [HU3.out]
  clear x5 y5 z3 g3 n3g m3g
  refine (HL.out U3 HW3.out.2.2).mono ?_
  rintro e V4 ⟨p6, q6, rfl, hT4, hb4⟩
  have HV4 : Hid (Blk V4 R #[.int .i64 0, .string ⟨#[]⟩, .int .i64 0, .slice none 0 0, .slice none 0 0, .slice none 0 0, .slice none 0 0] 31 ∧ Blk V4 C #[.int .i64 kd, .string nm, .int .i64 nu, .slice p3 n3 q3, .slice p4 n4 q4, .slice p5 n5 q5, .slice o6 n6 c6] 31 ∧ Below w.heap.size w V4) := by
    have h1 := HW3.out
    exact ⟨h1.1.below hb4, h1.2.1.below hb4, h1.2.2.trans (hb4.mono h1.2.2.size)⟩
  have HT4 : Hid (OwRow V4 U3.heap.size V4.heap.size 11 (OwAl V4 d) p6 Ls ∧ Below U3.heap.size U3 V4) := ⟨hT4, hb4⟩
  obtain ⟨U4, hU4⟩ : ∃ U4, V4.setCell ⟨C, 6, none⟩ (.slice p6 n6 q6) = U4 := ⟨_, rfl⟩
  have HU4 : Hid (V4.setCell ⟨C, 6, none⟩ (.slice p6 n6 q6) = U4) := hU4
  have HW4 : Hid (Blk U4 R #[.int .i64 0, .string ⟨#[]⟩, .int .i64 0, .slice none 0 0, .slice none 0 0, .slice none 0 0, .slice none 0 0] 31 ∧ Blk U4 C #[.int .i64 kd, .string nm, .int .i64 nu, .slice p3 n3 q3, .slice p4 n4 q4, .slice p5 n5 q5, .slice p6 n6 q6] 31 ∧ Below w.heap.size w U4) := by
    have h1 := HV4.out
    rw [← hU4]
    refine ⟨h1.1.but _ _ (by have := HRC.out; omega), h1.2.1.set 6 _, h1.2.2.setCell (p := ⟨C, 6, none⟩) (by show _ ≤ C; have := HRC.out; omega) _⟩
  have x6 := HV4.out.2.1.cell 6 _ rfl
  have y6 := HV4.out.2.1.frozen 6
  have z4 : C < V4.heap.size := HV4.out.2.1.lt
  have g4 : g < V4.heap.size := Nat.lt_of_lt_of_le hgw HV4.out.2.2.size
  obtain ⟨⟨w0, w1, w2, w3, w4, w5, w6⟩, -⟩ := HW4.out.2.1.all7
  obtain ⟨⟨r0, r1, r2, r3, r4, r5, r6⟩, s0, s1, s2, s3, s4, s5, s6⟩ := HW4.out.1.all7
  have lC : C < U4.heap.size := HW4.out.2.1.lt
  have lR : R < U4.heap.size := HW4.out.1.lt
  have HEnd : Hid (Blk (st7 U4 R 0 (.int .i64 kd) (.string nm) (.int .i64 nu) (.slice p3 n3 q3) (.slice p4 n4 q4) (.slice p5 n5 q5) (.slice p6 n6 q6)) R #[.int .i64 kd, .string nm, .int .i64 nu, .slice p3 n3 q3, .slice p4 n4 q4, .slice p5 n5 q5, .slice p6 n6 q6] 31) := by
    have h1 := HW4.out.1
    exact ((((((h1.set 0 _).set 1 _).set 2 _).set 3 _).set 4 _).set 5 _).set 6 _
  clear hT4 hb4
  go_wp2
  (try simp only [Exit.inBlock, Exit.then])
  refine bodyPost_ret (results_cell_row rfl _ _ R 31 _ _ _ rfl HEnd.out Tryz.underlying31 rfl rfl) rfl ?_
  have hS : ∃ S, st7 U4 R 0 (.int .i64 kd) (.string nm) (.int .i64 nu) (.slice p3 n3 q3) (.slice p4 n4 q4) (.slice p5 n5 q5) (.slice p6 n6 q6) = S := ⟨_, rfl⟩
  obtain ⟨S, hS⟩ := hS
  show ∃ v, _ ∧ OwV (st7 U4 R 0 (.int .i64 kd) (.string nm) (.int .i64 nu) (.slice p3 n3 q3) (.slice p4 n4 q4) (.slice p5 n5 q5) (.slice p6 n6 q6)) (d + 1) t v w.heap.size (st7 U4 R 0 (.int .i64 kd) (.string nm) (.int .i64 nu) (.slice p3 n3 q3) (.slice p4 n4 q4) (.slice p5 n5 q5) (.slice p6 n6 q6)).heap.size ∧ Below w.heap.size w (st7 U4 R 0 (.int .i64 kd) (.string nm) (.int .i64 nu) (.slice p3 n3 q3) (.slice p4 n4 q4) (.slice p5 n5 q5) (.slice p6 n6 q6))
  have hSb : Below w.heap.size w S := by rw [← hS]; exact st7_below HW4.out.2.2 _ _ (by have := HRC.out; omega) _ _ _ _ _ _ _
  have hSo : ∀ k, k ≠ R → S.heap[k]? = U4.heap[k]? := fun k hk => by rw [← hS]; exact st7_other _ _ _ _ _ _ _ _ _ _ _ hk
  have hSz : S.heap.size = U4.heap.size := by rw [← hS]; exact st7_size _ _ _ _ _ _ _ _ _ _
  rw [hS]
  obtain ⟨a1, a2⟩ := HRC.out
  have b0 : C < W0.heap.size := HW0.out.2.1.lt
  have u1 : U1.heap.size = V1.heap.size := by rw [← HU1.out, size_set7]
  have u2 : U2.heap.size = V2.heap.size := by rw [← HU2.out, size_set7]
  have u3 : U3.heap.size = V3.heap.size := by rw [← HU3.out, size_set7]
  have u4 : U4.heap.size = V4.heap.size := by rw [← HU4.out, size_set7]
  have o1 : ∀ k, k ≠ C → U1.heap[k]? = V1.heap[k]? := fun k hk => by rw [← HU1.out]; exact heap_set_other _ _ _ _ _ hk
  have o2 : ∀ k, k ≠ C → U2.heap[k]? = V2.heap[k]? := fun k hk => by rw [← HU2.out]; exact heap_set_other _ _ _ _ _ hk
  have o3' : ∀ k, k ≠ C → U3.heap[k]? = V3.heap[k]? := fun k hk => by rw [← HU3.out]; exact heap_set_other _ _ _ _ _ hk
  have o4' : ∀ k, k ≠ C → U4.heap[k]? = V4.heap[k]? := fun k hk => by rw [← HU4.out]; exact heap_set_other _ _ _ _ _ hk
  obtain ⟨t1, b1⟩ := HT1.out
  obtain ⟨t2, b2⟩ := HT2'.out
  obtain ⟨t3, b3⟩ := HT3.out
  obtain ⟨t4, b4⟩ := HT4.out
  have z1 := b1.size
  have z2 := b2.size
  have z3 := b3.size
  have z4 := b4.size
  have s4 : ∀ k, C < k → k < V4.heap.size → S.heap[k]? = V4.heap[k]? := fun k h1 h2 => (hSo k (by omega)).trans (o4' k (by omega))
  have s3 : ∀ k, C < k → k < V3.heap.size → S.heap[k]? = V3.heap[k]? := fun k h1 h2 => ((s4 k h1 (by omega)).trans (b4.block k (by omega))).trans (o3' k (by omega))
  have s2 : ∀ k, C < k → k < V2.heap.size → S.heap[k]? = V2.heap[k]? := fun k h1 h2 => ((s3 k h1 (by omega)).trans (b3.block k (by omega))).trans (o2 k (by omega))
  have s1 : ∀ k, C < k → k < V1.heap.size → S.heap[k]? = V1.heap[k]? := fun k h1 h2 => ((s2 k h1 (by omega)).trans (b2.block k (by omega))).trans (o1 k (by omega))
  obtain ⟨e1, e2, e3, e4⟩ := HT.out
  obtain ⟨d1, d2, d3⟩ := HT2.out
  obtain ⟨l1, l2, l3, l4⟩ := HLn.out
  refine ⟨_, rfl, ⟨V1.heap.size, V2.heap.size, V3.heap.size, p3, q3, p4, q4, p5, q5, p6, q6, by omega, by omega, by omega, by omega, ?_, ?_, ?_, ?_, ?_⟩, hSb⟩
  · rw [e1, e2, e3, e4, d1, d2, d3, l1, l2, l3, l4]
  · rw [e1]; exact (t1.same (fun k h1 h2 => s1 k (by omega) h2)).mono (by omega) (Nat.le_refl _)
  · rw [e2]; exact (bd_same t2 (fun k h1 h2 => s2 k (by omega) h2)).mono (by omega) (Nat.le_refl _)
  · rw [e3]; exact (ex_same t3 (fun k h1 h2 => s3 k (by omega) h2)).mono (by omega) (Nat.le_refl _)
  · rw [e4]; exact (al_same t4 (fun k h1 h2 => s4 k (by omega) h2)).mono (by omega) (by omega)
theorem copiedOK : ∀ d, CpyOK d
  | 0 => fun t => nomatch t
  | d + 1 => copied_step d (copiedOK d)
end Go.Proofs.YtegdloenakachaaGreatDoor

namespace Go.Proofs.YtegdloenakachaaGreatDoor
open Go.RowKit Go.Shelf Go.Maps
set_option linter.unusedVariables false

/-- An expression as a value, its rows in a footprint. -/
def VlF (W : World) (F : Nat → Nat → Prop) : (d : Nat) → Tr d → Value → Prop
  | 0, t, _ => nomatch t
  | d + 1, t, v => ∃ o3 c3 o4 c4 o5 c5 o6 c6, v = .agg #[.int .i64 (TrN.kind t), .string (TrN.name t), .int .i64 (TrN.num t), .slice o3 (TrN.params t).length c3, .slice o4 (TrN.binds t).length c4, .slice o5 (TrN.args t).length c5, .slice o6 (TrN.alts t).length c6] ∧ TxF W F o3 (TrN.params t) ∧ RowF 8 (BdF W F d) o4 (TrN.binds t) ∧ RowF 7 (ExF W F d) o5 (TrN.args t) ∧ RowF 11 (AlF W F d) o6 (TrN.alts t)
theorem BdF.mono {W W' : World} {F F' : Nat → Nat → Prop} (hF : ∀ g off, F g off → F' g off ∧ W'.cell? ⟨g, off, none⟩ = W.cell? ⟨g, off, none⟩) {d : Nat} {x : ByteArray × Tr d} {g off : Nat} (h : BdF W F d x g off) : BdF W' F' d x g off := ⟨h.1.mono hF, ExF.mono hF d _ _ _ h.2⟩
theorem AlF.mono {W W' : World} {F F' : Nat → Nat → Prop} (hF : ∀ g off, F g off → F' g off ∧ W'.cell? ⟨g, off, none⟩ = W.cell? ⟨g, off, none⟩) {d : Nat} {x : AltH × Tr d} {g off : Nat} (h : AlF W F d x g off) : AlF W' F' d x g off := by
  obtain ⟨e1, e2, e3, ⟨o, c, e4, e5⟩, e6⟩ := h
  exact ⟨e1.mono hF, e2.mono hF, e3.mono hF, ⟨o, c, e4.mono hF, e5.mono hF⟩, ExF.mono hF d _ _ _ e6⟩
theorem VlF.mono {W W' : World} {F F' : Nat → Nat → Prop} (hF : ∀ g off, F g off → F' g off ∧ W'.cell? ⟨g, off, none⟩ = W.cell? ⟨g, off, none⟩) {d : Nat} {t : Tr d} {v : Value} (h : VlF W F d t v) : VlF W' F' d t v := by
  cases d with
  | zero => exact nomatch t
  | succ d =>
    obtain ⟨o3, c3, o4, c4, o5, c5, o6, c6, e, k3, k4, k5, k6⟩ := h
    exact ⟨o3, c3, o4, c4, o5, c5, o6, c6, e, k3.mono hF, k4.mono (fun x g off h => h.mono hF), k5.mono (fun x g off h => ExF.mono hF d _ _ _ h), k6.mono (fun x g off h => h.mono hF)⟩
/-- A value whose cells lie somewhere. -/
theorem VlF.at {W : World} {F : Nat → Nat → Prop} {d : Nat} {t : Tr d} {c0 c1 c2 c3 c4 c5 c6 : Value} (h : VlF W F d t (.agg #[c0, c1, c2, c3, c4, c5, c6])) {g off : Nat} (hF : ∀ o, off ≤ o → o < off + 7 → F g o) (h0 : W.cell? ⟨g, off, none⟩ = some c0) (h1 : W.cell? ⟨g, off + 1, none⟩ = some c1) (h2 : W.cell? ⟨g, off + 2, none⟩ = some c2) (h3 : W.cell? ⟨g, off + 3, none⟩ = some c3) (h4 : W.cell? ⟨g, off + 4, none⟩ = some c4) (h5 : W.cell? ⟨g, off + 5, none⟩ = some c5) (h6 : W.cell? ⟨g, off + 6, none⟩ = some c6) : ExF W F d t g off := by
  cases d with
  | zero => exact nomatch t
  | succ d =>
    obtain ⟨o3, c3, o4, c4, o5, c5, o6, c6, e, k3, k4, k5, k6⟩ := h
    cases e
    exact ⟨⟨hF _ (by omega) (by omega), h0⟩, ⟨hF _ (by omega) (by omega), h1⟩, ⟨hF _ (by omega) (by omega), h2⟩, ⟨o3, _, ⟨hF _ (by omega) (by omega), h3⟩, k3⟩, ⟨o4, _, ⟨hF _ (by omega) (by omega), h4⟩, k4⟩, ⟨o5, _, ⟨hF _ (by omega) (by omega), h5⟩, k5⟩, ⟨o6, _, ⟨hF _ (by omega) (by omega), h6⟩, k6⟩⟩
/-- An expression's own cells, as a value. -/
theorem ExF.val {W : World} {F : Nat → Nat → Prop} {d : Nat} {t : Tr d} {g off : Nat} (h : ExF W F d t g off) : ∃ (k0 : Int) (n1 : ByteArray) (m2 : Int) (o3 : Option Addr) (l3 c3 : Nat) (o4 : Option Addr) (l4 c4 : Nat) (o5 : Option Addr) (l5 c5 : Nat) (o6 : Option Addr) (l6 c6 : Nat), VlF W F d t (.agg #[.int .i64 k0, .string n1, .int .i64 m2, .slice o3 l3 c3, .slice o4 l4 c4, .slice o5 l5 c5, .slice o6 l6 c6]) ∧ W.cell? ⟨g, off, none⟩ = some (.int .i64 k0) ∧ W.cell? ⟨g, off + 1, none⟩ = some (.string n1) ∧ W.cell? ⟨g, off + 2, none⟩ = some (.int .i64 m2) ∧ W.cell? ⟨g, off + 3, none⟩ = some (.slice o3 l3 c3) ∧ W.cell? ⟨g, off + 4, none⟩ = some (.slice o4 l4 c4) ∧ W.cell? ⟨g, off + 5, none⟩ = some (.slice o5 l5 c5) ∧ W.cell? ⟨g, off + 6, none⟩ = some (.slice o6 l6 c6) := by
  cases d with
  | zero => exact nomatch t
  | succ d =>
    obtain ⟨h0, h1, h2, ⟨o3, c3, h3, k3⟩, ⟨o4, c4, h4, k4⟩, ⟨o5, c5, h5, k5⟩, ⟨o6, c6, h6, k6⟩⟩ := h
    exact ⟨_, _, _, o3, _, c3, o4, _, c4, o5, _, c5, o6, _, c6, ⟨o3, c3, o4, c4, o5, c5, o6, c6, rfl, k3, k4, k5, k6⟩, h0.2, h1.2, h2.2, h3.2, h4.2, h5.2, h6.2⟩
theorem VlF.shape {W : World} {F : Nat → Nat → Prop} {d : Nat} {t : Tr d} {v : Value} (h : VlF W F d t v) : ∃ (k0 : Int) (n1 : ByteArray) (m2 : Int) (o3 : Option Addr) (l3 c3 : Nat) (o4 : Option Addr) (l4 c4 : Nat) (o5 : Option Addr) (l5 c5 : Nat) (o6 : Option Addr) (l6 c6 : Nat), v = .agg #[.int .i64 k0, .string n1, .int .i64 m2, .slice o3 l3 c3, .slice o4 l4 c4, .slice o5 l5 c5, .slice o6 l6 c6] := by
  cases d with
  | zero => exact nomatch t
  | succ d =>
    obtain ⟨o3, c3, o4, c4, o5, c5, o6, c6, e, -⟩ := h
    exact ⟨_, _, _, o3, _, c3, o4, _, c4, o5, _, c5, o6, _, c6, e⟩
theorem OwV.vlF {W : World} {d : Nat} {t : Tr d} {v : Value} {lo hi : Nat} (h : OwV W d t v lo hi) : VlF W (fun k _ => lo ≤ k ∧ k < hi) d t v := by
  cases d with
  | zero => exact nomatch t
  | succ d =>
    obtain ⟨m1, m2, m3, o3, c3, o4, c4, o5, c5, o6, c6, l1, l2, l3, l4, rfl, k3, k4, k5, k6⟩ := h
    have row : ∀ {α : Type} {lo' hi' n : Nat} {Q0 : α → Nat → Nat → Nat → Nat → Prop} {Q : α → Nat → Nat → Prop} {o : Option Addr} {l : List α}, lo ≤ lo' → hi' ≤ hi → OwRow W lo' hi' n Q0 o l → (∀ x g off a b, lo ≤ g → g < hi → lo ≤ a → b ≤ hi → Q0 x g off a b → Q x g off) → RowF n Q o l := by
      intro α lo' hi' n Q0 Q o l a1 a2 h hpq
      have h9 := h.row (B := hi) (Q := Q) (by omega) (fun x g off a b b1 b2 b3 b4 hp => hpq x g off a b (by omega) (by omega) (by omega) (by omega) hp)
      rcases h9 with h | ⟨g, off, e, -, h⟩
      · exact .inl h
      · exact .inr ⟨g, off, e, h⟩
    have tx : ∀ {lo' hi' : Nat} {o : Option Addr} {l : List ByteArray}, lo ≤ lo' → hi' ≤ hi → OwTx W lo' hi' o l → TxF W (fun k _ => lo ≤ k ∧ k < hi) o l := by
      intro lo' hi' o l a1 a2 h
      rcases h with h | ⟨g, e, b1, b2, b3, b4⟩
      · exact .inl h
      · exact .inr ⟨g, 0, e, fun k hk => ⟨⟨by omega, by omega⟩, by rw [Nat.zero_add]; exact b4 k hk⟩⟩
    refine ⟨o3, c3, o4, c4, o5, c5, o6, c6, rfl, tx (by omega) (by omega) k3, row (by omega) (by omega) k4 ?_, row (by omega) (by omega) k5 ?_, row (by omega) (by omega) k6 ?_⟩
    · rintro x g off a b b1 b2 b3 b4 ⟨e1, e2⟩
      exact ⟨⟨⟨b1, b2⟩, e1⟩, OwEx.exF d _ _ _ _ _ e2 (fun o _ _ => ⟨b1, b2⟩) (fun k o c1 c2 => ⟨by omega, by omega⟩)⟩
    · intro x g off a b b1 b2 b3 b4 e
      exact OwEx.exF d _ _ _ _ _ e (fun o _ _ => ⟨b1, b2⟩) (fun k o c1 c2 => ⟨by omega, by omega⟩)
    · rintro x g off a b b1 b2 b3 b4 ⟨e1, e2, e3, m, q1, q2, ⟨o, c, e4, e5⟩, e6⟩
      exact ⟨⟨⟨b1, b2⟩, e1⟩, ⟨⟨b1, b2⟩, e2⟩, ⟨⟨b1, b2⟩, e3⟩, ⟨o, c, ⟨⟨b1, b2⟩, e4⟩, tx (by omega) (by omega) e5⟩, OwEx.exF d _ _ _ _ _ e6 (fun o _ _ => ⟨b1, b2⟩) (fun k o c1 c2 => ⟨by omega, by omega⟩)⟩
/-- The footprint of what is placed: what came with the substitution, or what is new. -/
def FpP (P : SbP) (lo hi : Nat) (k _o : Nat) : Prop := (P.lob ≤ k ∧ k < P.hib) ∨ (lo ≤ k ∧ k < hi)
def PlPost (P : SbP) (db : Nat) (b : Tr db) (F : List UInt8 → Bool) (L : List (List UInt8)) (c : Nat) (sc : Sc) (φ : List UInt8 → Nat) (cf last : Nat) (W : World) (r : Ending) (W' : World) : Prop := ∃ v room', r = .returned v ∧ VlF W' (FpP P W.heap.size W'.heap.size) db b v ∧ -1048576 ≤ room' ∧ room' ≤ 1048576 ∧ SbSt W' P db b F L c sc room' φ cf last ∧ SbCh P W W'
end Go.Proofs.YtegdloenakachaaGreatDoor
