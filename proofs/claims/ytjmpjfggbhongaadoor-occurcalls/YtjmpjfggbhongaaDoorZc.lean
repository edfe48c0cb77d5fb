/-
  The document's answer for occurrences (thunkmillref16): InLet, by a contract.
-/
import Derived.Test.YtjmpjfggbhongaaDoorZb
import Derived.Test.YtjmpjfggbhongaaDoorUo
namespace Go.Proofs.YtjmpjfggbhongaaDoor
open Go.RowKit Go.Shelf Go.Maps
set_option linter.unusedVariables false

/-- An expression of a depth, as a value. -/
def ExVd (W : World) (B : Nat) : (d : Nat) → Tr d → Value → Prop
  | 0, t, _ => nomatch t
  | d + 1, t, v => ExVal W B d t v
/-- What lies in memory, loaded. -/
def Ld7 (W : World) (B d : Nat) (t : Tr d) (g off : Nat) : Prop := ∃ k0 k1 k2 p3 l3 m3 p4 l4 m4 p5 l5 m5 p6 l6 m6, W.cell? ⟨g, off, none⟩ = some (.int .i64 k0) ∧ W.cell? ⟨g, off + 1, none⟩ = some (.string k1) ∧ W.cell? ⟨g, off + 2, none⟩ = some (.int .i64 k2) ∧ W.cell? ⟨g, off + 3, none⟩ = some (.slice p3 l3 m3) ∧ W.cell? ⟨g, off + 4, none⟩ = some (.slice p4 l4 m4) ∧ W.cell? ⟨g, off + 5, none⟩ = some (.slice p5 l5 m5) ∧ W.cell? ⟨g, off + 6, none⟩ = some (.slice p6 l6 m6) ∧ ExVd W B d t (.agg #[.int .i64 k0, .string k1, .int .i64 k2, .slice p3 l3 m3, .slice p4 l4 m4, .slice p5 l5 m5, .slice p6 l6 m6])
theorem ld7 {W : World} {B : Nat} : ∀ (d : Nat) (t : Tr d) (g off : Nat), ExAt W B d t g off → Ld7 W B d t g off
  | 0, t, _, _, _ => nomatch t
  | d + 1, t, g, off, ⟨hg, h0, h1, h2, ⟨o3, c3, h3, k3⟩, ⟨o4, c4, h4, k4⟩, ⟨o5, c5, h5, k5⟩, ⟨o6, c6, h6, k6⟩⟩ =>
    ⟨_, _, _, _, _, _, _, _, _, _, _, _, _, _, _, h0, h1, h2, h3, h4, h5, h6, ⟨o3, c3, o4, c4, o5, c5, o6, c6, rfl, k3, k4, k5, k6⟩⟩
/-- What of does with an expression of a depth. -/
def ROf (d : Nat) : Prop := ∀ (t : Tr d) (v : Value) (B : Nat) (nm : ByteArray) (w : World), ExVd w B d t v → B ≤ w.heap.size → wM d t ≤ 3000000 →
  Calls Tryd.prog 27 #[v, .string nm] w fun e w' => e = .returned (.int .i64 (ofM d t nm.data.toList : Nat)) ∧ Below w.heap.size w w'
theorem fold_at {α : Type} (f : Nat → α → Nat) (l : List α) (k : Nat) (h : k < l.length) (o : Nat) : (l.take (k + 1)).foldl f o = f ((l.take k).foldl f o) l[k] := by
  rw [List.take_succ_eq_append_getElem h, List.foldl_append]; rfl
theorem gg_alts {d : Nat} (l : List (AltH × Tr d)) (x : List UInt8) : 1 ≤ l.foldl (fun o a => if (dl a.1.vars).contains x then o else eitherM o (ofM d a.2 x)) 1 ∧ l.foldl (fun o a => if (dl a.1.vars).contains x then o else eitherM o (ofM d a.2 x)) 1 ≤ 5 := by
  have : ∀ (l : List (AltH × Tr d)) (o : Nat), 1 ≤ o ∧ o ≤ 5 → 1 ≤ l.foldl (fun o a => if (dl a.1.vars).contains x then o else eitherM o (ofM d a.2 x)) o ∧ l.foldl (fun o a => if (dl a.1.vars).contains x then o else eitherM o (ofM d a.2 x)) o ≤ 5 := by
    intro l
    induction l with
    | nil => intro o h; exact h
    | cons a l ih =>
      intro o h
      refine ih _ ?_
      dsimp only
      split
      · exact h
      · have hg := ((exprS_chd d a.2).1 x).rg
        have := comb_ok (q := true) h hg
        exact this
  exact this l 1 (by decide)
theorem ofM_rg (d : Nat) (t : Tr d) (x : List UInt8) : 1 ≤ ofM d t x ∧ ofM d t x ≤ 5 := ((exprS_chd d t).1 x).rg
set_option maxHeartbeats 16000000 in
set_option maxRecDepth 100000 in
theorem rInLetNo_c (d : Nat) (ih : ROf d) (t : Tr (d + 1)) (va : Value) (B : Nat) (nm : ByteArray) (w : World) (ha : ExVal w B d t va) (hB : B ≤ w.heap.size) (ht : wM (d + 1) t ≤ 3000000) (hk : ¬ TrN.kind t = 1) :
    Calls Tryd.prog 44 #[va, .string nm] w fun e w' => e = .returned (.int .i64 (inN (fun e => ofM d e nm.data.toList) t nm.data.toList : Nat)) ∧ Below w.heap.size w w' := by
  obtain ⟨o3, c3, o4, c4, o5, c5, o6, c6, ea, k3, k4, k5, k6⟩ := id ha
  subst ea
  have hM := wM_succ t
  have lenB : (TrN.binds t).length ≤ (bndM t).length := by simp [bndM]
  have lenA : (TrN.args t).length ≤ ((TrN.args t).map (wM d)).sum := len_le_sum _ _ (fun x _ => wM_pos d x)
  have lenL : (TrN.alts t).length ≤ ((TrN.alts t).map (fun a => 4 * a.1.vars.length + wM d a.2)).sum := len_le_sum _ _ (fun x _ => by have := wM_pos d x.2; omega)
  have hmem : ∀ {α : Type} (f : α → Nat) (l : List α) (k : Nat) (h : k < l.length), f l[k] ≤ (l.map f).sum := fun f l k h => by
    have h1 := take_sum f l k h
    have h2 := take_le f l (k + 1)
    omega
  obtain ⟨n3, hn3⟩ : ∃ n, (TrN.params t).length = n := ⟨_, rfl⟩
  obtain ⟨nb, hnb⟩ : ∃ n, (TrN.binds t).length = n := ⟨_, rfl⟩
  obtain ⟨na, hna⟩ : ∃ n, (TrN.args t).length = n := ⟨_, rfl⟩
  obtain ⟨nl, hnl⟩ : ∃ n, (TrN.alts t).length = n := ⟨_, rfl⟩
  obtain ⟨em, hem⟩ : ∃ n, TrN.name t = n := ⟨_, rfl⟩
  obtain ⟨kd, hkd⟩ : ∃ n, TrN.kind t = n := ⟨_, rfl⟩
  obtain ⟨nu, hnu⟩ : ∃ n, TrN.num t = n := ⟨_, rfl⟩
  rw [hn3, hnb, hna, hnl, hem, hkd, hnu]
  obtain ⟨V, hV⟩ : ∃ V, w.alloc (.cells #[.int .i64 kd, .string em, .int .i64 nu, .slice o3 n3 c3, .slice o4 nb c4, .slice o5 na c5, .slice o6 nl c6] 29) = V := ⟨_, rfl⟩
  have kV : Blk V w.heap.size #[.int .i64 kd, .string em, .int .i64 nu, .slice o3 n3 c3, .slice o4 nb c4, .slice o5 na c5, .slice o6 nl c6] 29 := by rw [← hV]; exact Blk.new w _ _
  have bV : Below w.heap.size w V := by rw [← hV]; exact below1 w _
  obtain ⟨ab, hab⟩ : ∃ ab, w.heap.size = ab := ⟨_, rfl⟩
  have hsame : ∀ W, Below w.heap.size w W → ∀ g off, g < B → W.cell? ⟨g, off, none⟩ = w.cell? ⟨g, off, none⟩ := fun W hW g off hg => hW.cell (p := ⟨g, off, none⟩) (by show g < w.heap.size; omega)
  obtain ⟨PB, hPB⟩ : ∃ P : World → Prop, (fun W => Blk W ab #[.int .i64 kd, .string em, .int .i64 nu, .slice o3 n3 c3, .slice o4 nb c4, .slice o5 na c5, .slice o6 nl c6] 29 ∧ Below w.heap.size w W) = P := ⟨_, rfl⟩
  have HC : Hid (∀ W, PB W → W.cell? ⟨ab, 0, none⟩ = some (.int .i64 kd) ∧ W.cell? ⟨ab, 1, none⟩ = some (.string em) ∧ W.cell? ⟨ab, 4, none⟩ = some (.slice o4 nb c4) ∧ W.cell? ⟨ab, 5, none⟩ = some (.slice o5 na c5) ∧ W.cell? ⟨ab, 6, none⟩ = some (.slice o6 nl c6) ∧ ab < W.heap.size) := by
    intro W hW
    rw [← hPB] at hW
    obtain ⟨hk, -⟩ := hW
    exact ⟨hk.cell 0 _ rfl, hk.cell 1 _ rfl, hk.cell 4 _ rfl, hk.cell 5 _ rfl, hk.cell 6 _ rfl, hk.lt⟩
  have HPB : Hid (∀ W, PB W → Below w.heap.size w W) := fun W hW => by rw [← hPB] at hW; exact hW.2
  have HBn : Hid (∀ k (hk : k < (TrN.binds t).length), ∃ g off, o4 = some ⟨g, off, none⟩ ∧ g < w.heap.size ∧ ∀ W, Below w.heap.size w W → Ld7 W B d (TrN.binds t)[k].2 g (off + k * 8 + 1) ∧ ∀ v, ExVd W B d (TrN.binds t)[k].2 v → Calls Tryd.prog 27 #[v, .string nm] W fun e w' => e = .returned (.int .i64 (ofM d (TrN.binds t)[k].2 nm.data.toList : Nat)) ∧ Below W.heap.size W w') := by
    intro k hk
    rcases k4 with h9 | ⟨g, off, e, hg, h9⟩
    · rw [h9] at hk; cases hk
    · refine ⟨g, off, e, by omega, fun W hW => ⟨ld7 d _ _ _ (ExAt.same (hsame W hW) d _ _ _ (h9 k hk).2), fun v hv => ih _ v B nm W hv (by have := hW.size; omega) (by have := hmem (fun b : ByteArray × Tr d => wM d b.2) (TrN.binds t) k hk; omega)⟩⟩
  have HAr : Hid (∀ k (hk : k < (TrN.args t).length), ∃ g off, o5 = some ⟨g, off, none⟩ ∧ g < w.heap.size ∧ ∀ W, Below w.heap.size w W → Ld7 W B d (TrN.args t)[k] g (off + k * 7) ∧ ∀ v, ExVd W B d (TrN.args t)[k] v → Calls Tryd.prog 27 #[v, .string nm] W fun e w' => e = .returned (.int .i64 (ofM d (TrN.args t)[k] nm.data.toList : Nat)) ∧ Below W.heap.size W w') := by
    intro k hk
    rcases k5 with h9 | ⟨g, off, e, hg, h9⟩
    · rw [h9] at hk; cases hk
    · refine ⟨g, off, e, by omega, fun W hW => ⟨ld7 d _ _ _ (ExAt.same (hsame W hW) d _ _ _ (h9 k hk)), fun v hv => ih _ v B nm W hv (by have := hW.size; omega) (by have := hmem (wM d) (TrN.args t) k hk; omega)⟩⟩
  have HAl : Hid (∀ k (hk : k < (TrN.alts t).length), ∃ g off, o6 = some ⟨g, off, none⟩ ∧ g < w.heap.size ∧ ∀ W, Below w.heap.size w W → (∃ ov cv, W.cell? ⟨g, off + k * 11 + 3, none⟩ = some (.slice ov (TrN.alts t)[k].1.vars.length cv) ∧ Calls Tryd.prog 42 #[.slice ov (TrN.alts t)[k].1.vars.length cv, .string nm] W fun e w' => e = .returned (.bool ((dl (TrN.alts t)[k].1.vars).contains nm.data.toList)) ∧ w' = W) ∧ Ld7 W B d (TrN.alts t)[k].2 g (off + k * 11 + 4) ∧ ∀ v, ExVd W B d (TrN.alts t)[k].2 v → Calls Tryd.prog 27 #[v, .string nm] W fun e w' => e = .returned (.int .i64 (ofM d (TrN.alts t)[k].2 nm.data.toList : Nat)) ∧ Below W.heap.size W w') := by
    intro k hk
    rcases k6 with h9 | ⟨g, off, e, hg, h9⟩
    · rw [h9] at hk; cases hk
    · have hm := hmem (fun a : AltH × Tr d => 4 * a.1.vars.length + wM d a.2) (TrN.alts t) k hk
      obtain ⟨-, -, -, ⟨ov, cv, q3, q4⟩, q5⟩ := h9 k hk
      refine ⟨g, off, e, by omega, fun W hW => ⟨⟨ov, cv, (hsame W hW _ _ hg).trans q3, rhas_c _ ov cv B nm W (q4.same (hsame W hW)) (by have := hW.size; omega) (by omega)⟩, ld7 d _ _ _ (ExAt.same (hsame W hW) d _ _ _ q5), fun v hv => ih _ v B nm W hv (by have := hW.size; omega) (by omega)⟩⟩
  have HN : Hid ((TrN.binds t).length = nb ∧ (TrN.args t).length = na ∧ (TrN.alts t).length = nl) := ⟨hnb, hna, hnl⟩
  have HV0 : Hid (isV t nm.data.toList = false) := by
    have h : isV t nm.data.toList = false := by
      unfold isV
      rw [hkd, hem]
      simp [show ¬ kd = 1 from hkd ▸ hk]
    exact h
  have HL : Hid (∀ g', g' < w.heap.size → ∀ W, Below w.heap.size w W → g' < W.heap.size) := fun g' h1 W hW => Nat.lt_of_lt_of_le h1 hW.size
  have hnbI : (nb : Int) ≤ 3000000 := by omega
  have hnaI : (na : Int) ≤ 3000000 := by omega
  have hnlI : (nl : Int) ≤ 3000000 := by omega
  have HKV : Hid (PB V) := by
    have h : PB V := by rw [← hPB]; exact ⟨by rw [← hab]; exact kV, bV⟩
    exact h
  have HKb : Hid (∀ W W', PB W → Below W.heap.size W W' → PB W') := fun W W' h hb => by
    rw [← hPB] at h ⊢
    exact ⟨h.1.below hb, h.2.trans (hb.mono h.2.size)⟩
  obtain ⟨F1, hF1⟩ : ∃ F : Nat → Nat, (fun k => ((TrN.binds t).take k).foldl (fun o b => bothM o (ofM d b.2 nm.data.toList)) 1) = F := ⟨_, rfl⟩
  have HF1 : Hid (F1 0 = 1 ∧ ∀ k (h : k < (TrN.binds t).length), F1 (k + 1) = bothM (F1 k) (ofM d (TrN.binds t)[k].2 nm.data.toList)) := ⟨by rw [← hF1]; rfl, fun k h => by rw [← hF1]; exact fold_at _ _ k h _⟩
  obtain ⟨F2, hF2⟩ : ∃ F : Nat → Nat, (fun k => ((TrN.args t).take k).foldl (fun o e => bothM o (ofM d e nm.data.toList)) (F1 nb)) = F := ⟨_, rfl⟩
  have HF2 : Hid (F2 0 = F1 nb ∧ ∀ k (h : k < (TrN.args t).length), F2 (k + 1) = bothM (F2 k) (ofM d (TrN.args t)[k] nm.data.toList)) := ⟨by rw [← hF2]; rfl, fun k h => by rw [← hF2]; exact fold_at _ _ k h _⟩
  obtain ⟨F3, hF3⟩ : ∃ F : Nat → Nat, (fun k => ((TrN.alts t).take k).foldl (fun o a => if (dl a.1.vars).contains nm.data.toList then o else eitherM o (ofM d a.2 nm.data.toList)) 1) = F := ⟨_, rfl⟩
  have HF3 : Hid (F3 0 = 1 ∧ ∀ k (h : k < (TrN.alts t).length), F3 (k + 1) = (if (dl (TrN.alts t)[k].1.vars).contains nm.data.toList then F3 k else eitherM (F3 k) (ofM d (TrN.alts t)[k].2 nm.data.toList)) ∧ 1 ≤ F3 k ∧ F3 k ≤ 5 ∧ 1 ≤ ofM d (TrN.alts t)[k].2 nm.data.toList ∧ ofM d (TrN.alts t)[k].2 nm.data.toList ≤ 5) := ⟨by rw [← hF3]; rfl, fun k h => ⟨by rw [← hF3]; exact fold_at _ _ k h _, by rw [← hF3]; exact (gg_alts _ _).1, by rw [← hF3]; exact (gg_alts _ _).2, ofM_rg _ _ _⟩⟩
  have HE : Hid (inN (fun e => ofM d e nm.data.toList) t nm.data.toList = bothM (F2 na) (F3 nl)) := by
    have h : inN (fun e => ofM d e nm.data.toList) t nm.data.toList = bothM (F2 na) (F3 nl) := by
      unfold inN
      rw [HV0.out, ← hF2, ← hF3, ← hF1, ← hnb, ← hna, ← hnl]
      simp only [List.take_length]
      rfl
    exact h
  rw [HE.out]
  have hkd1 : ¬ kd = 1 := hkd ▸ hk
  rw [hkd, hem] at *
  clear ha hB ht k3 k4 k5 k6 hM lenB lenA lenL hmem hsame kV bV hn3 hnb hna hnl hem hkd hnu ih hF1 hF2 hF3 HE HV0 hk
  skip
  go_enter Tryd.func44, Tryd.ntmps44
  go_upto_region 1 with fail
  (try rw [hV])
  (try rw [hab])
  clear hV hab hPB
  obtain ⟨q0, q1, q4, q5, q6, ql⟩ := HC.out V HKV.out
  go_wp2
  clear q0 q1 q4 q5 q6 ql
  go_loopw [5, 6] (fun ov i wr => ∃ k : Nat, k ≤ nb ∧ ov = .int .i64 (F1 k : Nat) ∧ i = .int .i64 k ∧ Hid (PB wr)) (fun _ i _ => nb - (intOf i).toNat)
  case atStart => exact ⟨0, Nat.zero_le _, by rw [HF1.out.1]; rfl, rfl, HKV⟩
  case round =>
    obtain ⟨k, hk, rfl, rfl, hS⟩ := hrel
    clear HKV
    by_cases hkn : k < nb
    · have hkl : k < (TrN.binds t).length := by rw [HN.out.1]; exact hkn
      obtain ⟨g, off, rfl, hg, hX⟩ := HBn.out k hkl
      obtain ⟨q0, q1, q4, q5, q6, ql⟩ := HC.out wr hS.out
      obtain ⟨⟨k0, k1, k2, p3, l3, m3, p4, l4, m4, p5, l5, m5, p6, l6, m6, z0, z1, z2, z3, z4, z5, z6, zv⟩, hcall⟩ := hX wr (HPB.out _ hS.out)
      have HCl : Hid (Calls Tryd.prog 27 #[.agg #[.int .i64 k0, .string k1, .int .i64 k2, .slice p3 l3 m3, .slice p4 l4 m4, .slice p5 l5 m5, .slice p6 l6 m6], .string nm] wr fun e w' => e = .returned (.int .i64 (ofM d (TrN.binds t)[k].2 nm.data.toList : Nat)) ∧ Below wr.heap.size wr w') := hcall _ zv
      have hgw := HL.out g hg wr (HPB.out _ hS.out)
      have HF : Hid (F1 (k + 1) = bothM (F1 k) (ofM d (TrN.binds t)[k].2 nm.data.toList)) := HF1.out.2 k hkl
      generalize ofM d (TrN.binds t)[k].2 nm.data.toList = oc at HCl HF
      clear hX hcall zv hkl hg HBn HAr HAl HF1 HF2 HF3
      go_wp2_with (go_at_call 27; fail)
      refine HCl.out.mono ?_
      rintro e y1 ⟨rfl, hb⟩
      have hS1 : Hid (PB y1) := HKb.out _ _ hS.out hb
      clear hb hS HCl q0 q1 q4 q5 q6 ql z0 z1 z2 z3 z4 z5 z6 hgw
      obtain ⟨q0, q1, q4, q5, q6, ql⟩ := HC.out y1 hS1.out
      go_wp2_with (go_at_call 65; fail)
      clear q0 q1 q4 q5 q6 ql
      refine (rboth_c _ _ _).mono ?_
      rintro e y2 ⟨rfl, e2⟩
      subst e2
      go_wp2
      go_roundw
      case rel => exact ⟨k + 1, hkn, by rw [HF.out], by go_num, hS1⟩
      case measure => simp [intOf]; omega
    · have hke : k = nb := by omega
      subst hke
      clear HBn HF1
      obtain ⟨q0, q1, q4, q5, q6, ql⟩ := HC.out wr hS.out
      go_wp2
      clear q0 q1 q4 q5 q6 ql
      go_loopw [5, 7] (fun ov i wr => ∃ k : Nat, k ≤ na ∧ ov = .int .i64 (F2 k : Nat) ∧ i = .int .i64 k ∧ Hid (PB wr)) (fun _ i _ => na - (intOf i).toNat)
      case atStart => exact ⟨0, Nat.zero_le _, by rw [HF2.out.1], rfl, hS⟩
      case round =>
        clear hS hk hkn
        obtain ⟨j, hj, rfl, rfl, hS⟩ := hrel
        by_cases hkn : j < na
        · have hkl : j < (TrN.args t).length := by rw [HN.out.2.1]; exact hkn
          obtain ⟨g, off, rfl, hg, hX⟩ := HAr.out j hkl
          obtain ⟨q0, q1, q4, q5, q6, ql⟩ := HC.out wr hS.out
          obtain ⟨⟨k0, k1, k2, p3, l3, m3, p4, l4, m4, p5, l5, m5, p6, l6, m6, z0, z1, z2, z3, z4, z5, z6, zv⟩, hcall⟩ := hX wr (HPB.out _ hS.out)
          have HCl : Hid (Calls Tryd.prog 27 #[.agg #[.int .i64 k0, .string k1, .int .i64 k2, .slice p3 l3 m3, .slice p4 l4 m4, .slice p5 l5 m5, .slice p6 l6 m6], .string nm] wr fun e w' => e = .returned (.int .i64 (ofM d (TrN.args t)[j] nm.data.toList : Nat)) ∧ Below wr.heap.size wr w') := hcall _ zv
          have hgw := HL.out g hg wr (HPB.out _ hS.out)
          have HF : Hid (F2 (j + 1) = bothM (F2 j) (ofM d (TrN.args t)[j] nm.data.toList)) := HF2.out.2 j hkl
          generalize ofM d (TrN.args t)[j] nm.data.toList = oc at HCl HF
          clear hX hcall zv hkl hg HAr HAl HF2 HF3
          go_wp2_with (go_at_call 27; fail)
          refine HCl.out.mono ?_
          rintro e y1 ⟨rfl, hb⟩
          have hS1 : Hid (PB y1) := HKb.out _ _ hS.out hb
          clear hb hS HCl q0 q1 q4 q5 q6 ql z0 z1 z2 z3 z4 z5 z6 hgw
          obtain ⟨q0, q1, q4, q5, q6, ql⟩ := HC.out y1 hS1.out
          go_wp2_with (go_at_call 65; fail)
          clear q0 q1 q4 q5 q6 ql
          refine (rboth_c _ _ _).mono ?_
          rintro e y2 ⟨rfl, e2⟩
          subst e2
          go_wp2
          go_roundw
          case rel => exact ⟨j + 1, hkn, by rw [HF.out], by go_num, hS1⟩
          case measure => simp [intOf]; omega
        · have hke : j = na := by omega
          subst hke
          clear HAr HF2
          obtain ⟨q0, q1, q4, q5, q6, ql⟩ := HC.out wr hS.out
          go_wp2
          clear q0 q1 q4 q5 q6 ql
          go_loopw [8, 9] (fun ov i wr => ∃ k : Nat, k ≤ nl ∧ ov = .int .i64 (F3 k : Nat) ∧ i = .int .i64 k ∧ Hid (PB wr)) (fun _ i _ => nl - (intOf i).toNat)
          case atStart => exact ⟨0, Nat.zero_le _, by rw [HF3.out.1]; rfl, rfl, hS⟩
          case round =>
            clear hS hj hkn
            obtain ⟨p, hp, rfl, rfl, hS⟩ := hrel
            by_cases hkn : p < nl
            · have hkl : p < (TrN.alts t).length := by rw [HN.out.2.2]; exact hkn
              obtain ⟨g, off, rfl, hg, hX⟩ := HAl.out p hkl
              obtain ⟨q0, q1, q4, q5, q6, ql⟩ := HC.out wr hS.out
              obtain ⟨⟨ov, cv, qv, hhas⟩, ⟨k0, k1, k2, p3, l3, m3, p4, l4, m4, p5, l5, m5, p6, l6, m6, z0, z1, z2, z3, z4, z5, z6, zv⟩, hcall⟩ := hX wr (HPB.out _ hS.out)
              obtain ⟨vn, hvn⟩ : ∃ n, (TrN.alts t)[p].1.vars.length = n := ⟨_, rfl⟩
              rw [hvn] at qv hhas
              have HH : Hid (Calls Tryd.prog 42 #[.slice ov vn cv, .string nm] wr fun e w' => e = .returned (.bool ((dl (TrN.alts t)[p].1.vars).contains nm.data.toList)) ∧ w' = wr) := hhas
              have HCl : Hid (Calls Tryd.prog 27 #[.agg #[.int .i64 k0, .string k1, .int .i64 k2, .slice p3 l3 m3, .slice p4 l4 m4, .slice p5 l5 m5, .slice p6 l6 m6], .string nm] wr fun e w' => e = .returned (.int .i64 (ofM d (TrN.alts t)[p].2 nm.data.toList : Nat)) ∧ Below wr.heap.size wr w') := hcall _ zv
              have hgw := HL.out g hg wr (HPB.out _ hS.out)
              have HF : Hid ((F3 (p + 1) = (if (dl (TrN.alts t)[p].1.vars).contains nm.data.toList then F3 p else eitherM (F3 p) (ofM d (TrN.alts t)[p].2 nm.data.toList))) ∧ 1 ≤ F3 p ∧ F3 p ≤ 5 ∧ 1 ≤ ofM d (TrN.alts t)[p].2 nm.data.toList ∧ ofM d (TrN.alts t)[p].2 nm.data.toList ≤ 5) := HF3.out.2 p hkl
              generalize ofM d (TrN.alts t)[p].2 nm.data.toList = oc at HCl HF
              generalize (dl (TrN.alts t)[p].1.vars).contains nm.data.toList = bh at HH HF
              clear hX hcall hhas zv hvn hkl hg HAl HF3
              go_wp2_with (go_at_call 42; fail)
              refine HH.out.mono ?_
              rintro e y0 ⟨rfl, e0⟩
              subst e0
              cases bh with
              | true =>
                clear HCl HH
                go_wp2
                go_roundw
                case rel => exact ⟨p + 1, hkn, by rw [HF.out.1]; rfl, by go_num, hS⟩
                case measure => simp [intOf]; omega
              | false =>
                go_wp2_with (go_at_call 27; fail)
                refine HCl.out.mono ?_
                rintro e y1 ⟨rfl, hb⟩
                have hS1 : Hid (PB y1) := HKb.out _ _ hS.out hb
                clear hb hS HCl HH q0 q1 q4 q5 q6 ql z0 z1 z2 z3 z4 z5 z6 hgw qv
                obtain ⟨q0, q1, q4, q5, q6, ql⟩ := HC.out y1 hS1.out
                go_wp2_with (go_at_call 66; fail)
                clear q0 q1 q4 q5 q6 ql
                refine (reither_c _ _ HF.out.2.1 HF.out.2.2.1 HF.out.2.2.2.1 HF.out.2.2.2.2 _).mono ?_
                rintro e y2 ⟨rfl, e2⟩
                subst e2
                go_wp2
                go_roundw
                case rel => exact ⟨p + 1, hkn, by rw [HF.out.1]; rfl, by go_num, hS1⟩
                case measure => simp [intOf]; omega
            · have hke : p = nl := by omega
              subst hke
              clear HAl HF3
              obtain ⟨q0, q1, q4, q5, q6, ql⟩ := HC.out wr hS.out
              go_wp2_with (go_at_call 65; fail)
              clear q0 q1 q4 q5 q6 ql
              refine (rboth_c _ _ _).mono ?_
              rintro e y2 ⟨rfl, e2⟩
              subst e2
              go_wp2
              go_ret
              exact ⟨rfl, HPB.out _ hS.out⟩
set_option maxHeartbeats 16000000 in
set_option maxRecDepth 100000 in
theorem rInLetYes_c (d : Nat) (ih : ROf d) (t : Tr (d + 1)) (va : Value) (B : Nat) (nm : ByteArray) (w : World) (ha : ExVal w B d t va) (hB : B ≤ w.heap.size) (ht : wM (d + 1) t ≤ 3000000) (hk : TrN.kind t = 1) (hn : TrN.name t = nm) :
    Calls Tryd.prog 44 #[va, .string nm] w fun e w' => e = .returned (.int .i64 (inN (fun e => ofM d e nm.data.toList) t nm.data.toList : Nat)) ∧ Below w.heap.size w w' := by
  obtain ⟨o3, c3, o4, c4, o5, c5, o6, c6, ea, k3, k4, k5, k6⟩ := id ha
  subst ea
  have hM := wM_succ t
  have lenB : (TrN.binds t).length ≤ (bndM t).length := by simp [bndM]
  have lenA : (TrN.args t).length ≤ ((TrN.args t).map (wM d)).sum := len_le_sum _ _ (fun x _ => wM_pos d x)
  have lenL : (TrN.alts t).length ≤ ((TrN.alts t).map (fun a => 4 * a.1.vars.length + wM d a.2)).sum := len_le_sum _ _ (fun x _ => by have := wM_pos d x.2; omega)
  have hmem : ∀ {α : Type} (f : α → Nat) (l : List α) (k : Nat) (h : k < l.length), f l[k] ≤ (l.map f).sum := fun f l k h => by
    have h1 := take_sum f l k h
    have h2 := take_le f l (k + 1)
    omega
  obtain ⟨n3, hn3⟩ : ∃ n, (TrN.params t).length = n := ⟨_, rfl⟩
  obtain ⟨nb, hnb⟩ : ∃ n, (TrN.binds t).length = n := ⟨_, rfl⟩
  obtain ⟨na, hna⟩ : ∃ n, (TrN.args t).length = n := ⟨_, rfl⟩
  obtain ⟨nl, hnl⟩ : ∃ n, (TrN.alts t).length = n := ⟨_, rfl⟩
  obtain ⟨em, hem⟩ : ∃ n, TrN.name t = n := ⟨_, rfl⟩
  obtain ⟨kd, hkd⟩ : ∃ n, TrN.kind t = n := ⟨_, rfl⟩
  obtain ⟨nu, hnu⟩ : ∃ n, TrN.num t = n := ⟨_, rfl⟩
  rw [hn3, hnb, hna, hnl, hem, hkd, hnu]
  obtain ⟨V, hV⟩ : ∃ V, w.alloc (.cells #[.int .i64 kd, .string em, .int .i64 nu, .slice o3 n3 c3, .slice o4 nb c4, .slice o5 na c5, .slice o6 nl c6] 29) = V := ⟨_, rfl⟩
  have kV : Blk V w.heap.size #[.int .i64 kd, .string em, .int .i64 nu, .slice o3 n3 c3, .slice o4 nb c4, .slice o5 na c5, .slice o6 nl c6] 29 := by rw [← hV]; exact Blk.new w _ _
  have bV : Below w.heap.size w V := by rw [← hV]; exact below1 w _
  obtain ⟨ab, hab⟩ : ∃ ab, w.heap.size = ab := ⟨_, rfl⟩
  have hsame : ∀ W, Below w.heap.size w W → ∀ g off, g < B → W.cell? ⟨g, off, none⟩ = w.cell? ⟨g, off, none⟩ := fun W hW g off hg => hW.cell (p := ⟨g, off, none⟩) (by show g < w.heap.size; omega)
  obtain ⟨PB, hPB⟩ : ∃ P : World → Prop, (fun W => Blk W ab #[.int .i64 kd, .string em, .int .i64 nu, .slice o3 n3 c3, .slice o4 nb c4, .slice o5 na c5, .slice o6 nl c6] 29 ∧ Below w.heap.size w W) = P := ⟨_, rfl⟩
  have HC : Hid (∀ W, PB W → W.cell? ⟨ab, 0, none⟩ = some (.int .i64 kd) ∧ W.cell? ⟨ab, 1, none⟩ = some (.string em) ∧ W.cell? ⟨ab, 4, none⟩ = some (.slice o4 nb c4) ∧ W.cell? ⟨ab, 5, none⟩ = some (.slice o5 na c5) ∧ W.cell? ⟨ab, 6, none⟩ = some (.slice o6 nl c6) ∧ ab < W.heap.size) := by
    intro W hW
    rw [← hPB] at hW
    obtain ⟨hk, -⟩ := hW
    exact ⟨hk.cell 0 _ rfl, hk.cell 1 _ rfl, hk.cell 4 _ rfl, hk.cell 5 _ rfl, hk.cell 6 _ rfl, hk.lt⟩
  have HPB : Hid (∀ W, PB W → Below w.heap.size w W) := fun W hW => by rw [← hPB] at hW; exact hW.2
  have HBn : Hid (∀ k (hk : k < (TrN.binds t).length), ∃ g off, o4 = some ⟨g, off, none⟩ ∧ g < w.heap.size ∧ ∀ W, Below w.heap.size w W → Ld7 W B d (TrN.binds t)[k].2 g (off + k * 8 + 1) ∧ ∀ v, ExVd W B d (TrN.binds t)[k].2 v → Calls Tryd.prog 27 #[v, .string nm] W fun e w' => e = .returned (.int .i64 (ofM d (TrN.binds t)[k].2 nm.data.toList : Nat)) ∧ Below W.heap.size W w') := by
    intro k hk
    rcases k4 with h9 | ⟨g, off, e, hg, h9⟩
    · rw [h9] at hk; cases hk
    · refine ⟨g, off, e, by omega, fun W hW => ⟨ld7 d _ _ _ (ExAt.same (hsame W hW) d _ _ _ (h9 k hk).2), fun v hv => ih _ v B nm W hv (by have := hW.size; omega) (by have := hmem (fun b : ByteArray × Tr d => wM d b.2) (TrN.binds t) k hk; omega)⟩⟩
  have HAr : Hid (∀ k (hk : k < (TrN.args t).length), ∃ g off, o5 = some ⟨g, off, none⟩ ∧ g < w.heap.size ∧ ∀ W, Below w.heap.size w W → Ld7 W B d (TrN.args t)[k] g (off + k * 7) ∧ ∀ v, ExVd W B d (TrN.args t)[k] v → Calls Tryd.prog 27 #[v, .string nm] W fun e w' => e = .returned (.int .i64 (ofM d (TrN.args t)[k] nm.data.toList : Nat)) ∧ Below W.heap.size W w') := by
    intro k hk
    rcases k5 with h9 | ⟨g, off, e, hg, h9⟩
    · rw [h9] at hk; cases hk
    · refine ⟨g, off, e, by omega, fun W hW => ⟨ld7 d _ _ _ (ExAt.same (hsame W hW) d _ _ _ (h9 k hk)), fun v hv => ih _ v B nm W hv (by have := hW.size; omega) (by have := hmem (wM d) (TrN.args t) k hk; omega)⟩⟩
  have HAl : Hid (∀ k (hk : k < (TrN.alts t).length), ∃ g off, o6 = some ⟨g, off, none⟩ ∧ g < w.heap.size ∧ ∀ W, Below w.heap.size w W → (∃ ov cv, W.cell? ⟨g, off + k * 11 + 3, none⟩ = some (.slice ov (TrN.alts t)[k].1.vars.length cv) ∧ Calls Tryd.prog 42 #[.slice ov (TrN.alts t)[k].1.vars.length cv, .string nm] W fun e w' => e = .returned (.bool ((dl (TrN.alts t)[k].1.vars).contains nm.data.toList)) ∧ w' = W) ∧ Ld7 W B d (TrN.alts t)[k].2 g (off + k * 11 + 4) ∧ ∀ v, ExVd W B d (TrN.alts t)[k].2 v → Calls Tryd.prog 27 #[v, .string nm] W fun e w' => e = .returned (.int .i64 (ofM d (TrN.alts t)[k].2 nm.data.toList : Nat)) ∧ Below W.heap.size W w') := by
    intro k hk
    rcases k6 with h9 | ⟨g, off, e, hg, h9⟩
    · rw [h9] at hk; cases hk
    · have hm := hmem (fun a : AltH × Tr d => 4 * a.1.vars.length + wM d a.2) (TrN.alts t) k hk
      obtain ⟨-, -, -, ⟨ov, cv, q3, q4⟩, q5⟩ := h9 k hk
      refine ⟨g, off, e, by omega, fun W hW => ⟨⟨ov, cv, (hsame W hW _ _ hg).trans q3, rhas_c _ ov cv B nm W (q4.same (hsame W hW)) (by have := hW.size; omega) (by omega)⟩, ld7 d _ _ _ (ExAt.same (hsame W hW) d _ _ _ q5), fun v hv => ih _ v B nm W hv (by have := hW.size; omega) (by omega)⟩⟩
  have HN : Hid ((TrN.binds t).length = nb ∧ (TrN.args t).length = na ∧ (TrN.alts t).length = nl) := ⟨hnb, hna, hnl⟩
  have HV0 : Hid (isV t nm.data.toList = true) := by
    have h : isV t nm.data.toList = true := by
      unfold isV
      rw [hkd, hem]
      simp [show kd = 1 from hkd ▸ hk, show em = nm from hem ▸ hn]
    exact h
  have HL : Hid (∀ g', g' < w.heap.size → ∀ W, Below w.heap.size w W → g' < W.heap.size) := fun g' h1 W hW => Nat.lt_of_lt_of_le h1 hW.size
  have hnbI : (nb : Int) ≤ 3000000 := by omega
  have hnaI : (na : Int) ≤ 3000000 := by omega
  have hnlI : (nl : Int) ≤ 3000000 := by omega
  have HKV : Hid (PB V) := by
    have h : PB V := by rw [← hPB]; exact ⟨by rw [← hab]; exact kV, bV⟩
    exact h
  have HKb : Hid (∀ W W', PB W → Below W.heap.size W W' → PB W') := fun W W' h hb => by
    rw [← hPB] at h ⊢
    exact ⟨h.1.below hb, h.2.trans (hb.mono h.2.size)⟩
  obtain ⟨F1, hF1⟩ : ∃ F : Nat → Nat, (fun k => ((TrN.binds t).take k).foldl (fun o b => bothM o (ofM d b.2 nm.data.toList)) 2) = F := ⟨_, rfl⟩
  have HF1 : Hid (F1 0 = 2 ∧ ∀ k (h : k < (TrN.binds t).length), F1 (k + 1) = bothM (F1 k) (ofM d (TrN.binds t)[k].2 nm.data.toList)) := ⟨by rw [← hF1]; rfl, fun k h => by rw [← hF1]; exact fold_at _ _ k h _⟩
  obtain ⟨F2, hF2⟩ : ∃ F : Nat → Nat, (fun k => ((TrN.args t).take k).foldl (fun o e => bothM o (ofM d e nm.data.toList)) (F1 nb)) = F := ⟨_, rfl⟩
  have HF2 : Hid (F2 0 = F1 nb ∧ ∀ k (h : k < (TrN.args t).length), F2 (k + 1) = bothM (F2 k) (ofM d (TrN.args t)[k] nm.data.toList)) := ⟨by rw [← hF2]; rfl, fun k h => by rw [← hF2]; exact fold_at _ _ k h _⟩
  obtain ⟨F3, hF3⟩ : ∃ F : Nat → Nat, (fun k => ((TrN.alts t).take k).foldl (fun o a => if (dl a.1.vars).contains nm.data.toList then o else eitherM o (ofM d a.2 nm.data.toList)) 1) = F := ⟨_, rfl⟩
  have HF3 : Hid (F3 0 = 1 ∧ ∀ k (h : k < (TrN.alts t).length), F3 (k + 1) = (if (dl (TrN.alts t)[k].1.vars).contains nm.data.toList then F3 k else eitherM (F3 k) (ofM d (TrN.alts t)[k].2 nm.data.toList)) ∧ 1 ≤ F3 k ∧ F3 k ≤ 5 ∧ 1 ≤ ofM d (TrN.alts t)[k].2 nm.data.toList ∧ ofM d (TrN.alts t)[k].2 nm.data.toList ≤ 5) := ⟨by rw [← hF3]; rfl, fun k h => ⟨by rw [← hF3]; exact fold_at _ _ k h _, by rw [← hF3]; exact (gg_alts _ _).1, by rw [← hF3]; exact (gg_alts _ _).2, ofM_rg _ _ _⟩⟩
  have HE : Hid (inN (fun e => ofM d e nm.data.toList) t nm.data.toList = bothM (F2 na) (F3 nl)) := by
    have h : inN (fun e => ofM d e nm.data.toList) t nm.data.toList = bothM (F2 na) (F3 nl) := by
      unfold inN
      rw [HV0.out, ← hF2, ← hF3, ← hF1, ← hnb, ← hna, ← hnl]
      simp only [List.take_length]
      rfl
    exact h
  rw [HE.out]
  have hkd1 : kd = 1 := hkd ▸ hk
  have hem1 : nm = em := (hem ▸ hn : em = nm).symm
  rw [hkd, hem] at *
  clear ha hB ht k3 k4 k5 k6 hM lenB lenA lenL hmem hsame kV bV hn3 hnb hna hnl hem hkd hnu ih hF1 hF2 hF3 HE HV0 hk hn
  subst hkd1
  subst hem1
  go_enter Tryd.func44, Tryd.ntmps44
  go_upto_region 1 with fail
  (try rw [hV])
  (try rw [hab])
  clear hV hab hPB
  obtain ⟨q0, q1, q4, q5, q6, ql⟩ := HC.out V HKV.out
  go_wp2
  clear q0 q1 q4 q5 q6 ql
  go_loopw [5, 6] (fun ov i wr => ∃ k : Nat, k ≤ nb ∧ ov = .int .i64 (F1 k : Nat) ∧ i = .int .i64 k ∧ Hid (PB wr)) (fun _ i _ => nb - (intOf i).toNat)
  case atStart => exact ⟨0, Nat.zero_le _, by rw [HF1.out.1]; rfl, rfl, HKV⟩
  case round =>
    obtain ⟨k, hk, rfl, rfl, hS⟩ := hrel
    clear HKV
    by_cases hkn : k < nb
    · have hkl : k < (TrN.binds t).length := by rw [HN.out.1]; exact hkn
      obtain ⟨g, off, rfl, hg, hX⟩ := HBn.out k hkl
      obtain ⟨q0, q1, q4, q5, q6, ql⟩ := HC.out wr hS.out
      obtain ⟨⟨k0, k1, k2, p3, l3, m3, p4, l4, m4, p5, l5, m5, p6, l6, m6, z0, z1, z2, z3, z4, z5, z6, zv⟩, hcall⟩ := hX wr (HPB.out _ hS.out)
      have HCl : Hid (Calls Tryd.prog 27 #[.agg #[.int .i64 k0, .string k1, .int .i64 k2, .slice p3 l3 m3, .slice p4 l4 m4, .slice p5 l5 m5, .slice p6 l6 m6], .string nm] wr fun e w' => e = .returned (.int .i64 (ofM d (TrN.binds t)[k].2 nm.data.toList : Nat)) ∧ Below wr.heap.size wr w') := hcall _ zv
      have hgw := HL.out g hg wr (HPB.out _ hS.out)
      have HF : Hid (F1 (k + 1) = bothM (F1 k) (ofM d (TrN.binds t)[k].2 nm.data.toList)) := HF1.out.2 k hkl
      generalize ofM d (TrN.binds t)[k].2 nm.data.toList = oc at HCl HF
      clear hX hcall zv hkl hg HBn HAr HAl HF1 HF2 HF3
      go_wp2_with (go_at_call 27; fail)
      refine HCl.out.mono ?_
      rintro e y1 ⟨rfl, hb⟩
      have hS1 : Hid (PB y1) := HKb.out _ _ hS.out hb
      clear hb hS HCl q0 q1 q4 q5 q6 ql z0 z1 z2 z3 z4 z5 z6 hgw
      obtain ⟨q0, q1, q4, q5, q6, ql⟩ := HC.out y1 hS1.out
      go_wp2_with (go_at_call 65; fail)
      clear q0 q1 q4 q5 q6 ql
      refine (rboth_c _ _ _).mono ?_
      rintro e y2 ⟨rfl, e2⟩
      subst e2
      go_wp2
      go_roundw
      case rel => exact ⟨k + 1, hkn, by rw [HF.out], by go_num, hS1⟩
      case measure => simp [intOf]; omega
    · have hke : k = nb := by omega
      subst hke
      clear HBn HF1
      obtain ⟨q0, q1, q4, q5, q6, ql⟩ := HC.out wr hS.out
      go_wp2
      clear q0 q1 q4 q5 q6 ql
      go_loopw [5, 7] (fun ov i wr => ∃ k : Nat, k ≤ na ∧ ov = .int .i64 (F2 k : Nat) ∧ i = .int .i64 k ∧ Hid (PB wr)) (fun _ i _ => na - (intOf i).toNat)
      case atStart => exact ⟨0, Nat.zero_le _, by rw [HF2.out.1], rfl, hS⟩
      case round =>
        clear hS hk hkn
        obtain ⟨j, hj, rfl, rfl, hS⟩ := hrel
        by_cases hkn : j < na
        · have hkl : j < (TrN.args t).length := by rw [HN.out.2.1]; exact hkn
          obtain ⟨g, off, rfl, hg, hX⟩ := HAr.out j hkl
          obtain ⟨q0, q1, q4, q5, q6, ql⟩ := HC.out wr hS.out
          obtain ⟨⟨k0, k1, k2, p3, l3, m3, p4, l4, m4, p5, l5, m5, p6, l6, m6, z0, z1, z2, z3, z4, z5, z6, zv⟩, hcall⟩ := hX wr (HPB.out _ hS.out)
          have HCl : Hid (Calls Tryd.prog 27 #[.agg #[.int .i64 k0, .string k1, .int .i64 k2, .slice p3 l3 m3, .slice p4 l4 m4, .slice p5 l5 m5, .slice p6 l6 m6], .string nm] wr fun e w' => e = .returned (.int .i64 (ofM d (TrN.args t)[j] nm.data.toList : Nat)) ∧ Below wr.heap.size wr w') := hcall _ zv
          have hgw := HL.out g hg wr (HPB.out _ hS.out)
          have HF : Hid (F2 (j + 1) = bothM (F2 j) (ofM d (TrN.args t)[j] nm.data.toList)) := HF2.out.2 j hkl
          generalize ofM d (TrN.args t)[j] nm.data.toList = oc at HCl HF
          clear hX hcall zv hkl hg HAr HAl HF2 HF3
          go_wp2_with (go_at_call 27; fail)
          refine HCl.out.mono ?_
          rintro e y1 ⟨rfl, hb⟩
          have hS1 : Hid (PB y1) := HKb.out _ _ hS.out hb
          clear hb hS HCl q0 q1 q4 q5 q6 ql z0 z1 z2 z3 z4 z5 z6 hgw
          obtain ⟨q0, q1, q4, q5, q6, ql⟩ := HC.out y1 hS1.out
          go_wp2_with (go_at_call 65; fail)
          clear q0 q1 q4 q5 q6 ql
          refine (rboth_c _ _ _).mono ?_
          rintro e y2 ⟨rfl, e2⟩
          subst e2
          go_wp2
          go_roundw
          case rel => exact ⟨j + 1, hkn, by rw [HF.out], by go_num, hS1⟩
          case measure => simp [intOf]; omega
        · have hke : j = na := by omega
          subst hke
          clear HAr HF2
          obtain ⟨q0, q1, q4, q5, q6, ql⟩ := HC.out wr hS.out
          go_wp2
          clear q0 q1 q4 q5 q6 ql
          go_loopw [8, 9] (fun ov i wr => ∃ k : Nat, k ≤ nl ∧ ov = .int .i64 (F3 k : Nat) ∧ i = .int .i64 k ∧ Hid (PB wr)) (fun _ i _ => nl - (intOf i).toNat)
          case atStart => exact ⟨0, Nat.zero_le _, by rw [HF3.out.1]; rfl, rfl, hS⟩
          case round =>
            clear hS hj hkn
            obtain ⟨p, hp, rfl, rfl, hS⟩ := hrel
            by_cases hkn : p < nl
            · have hkl : p < (TrN.alts t).length := by rw [HN.out.2.2]; exact hkn
              obtain ⟨g, off, rfl, hg, hX⟩ := HAl.out p hkl
              obtain ⟨q0, q1, q4, q5, q6, ql⟩ := HC.out wr hS.out
              obtain ⟨⟨ov, cv, qv, hhas⟩, ⟨k0, k1, k2, p3, l3, m3, p4, l4, m4, p5, l5, m5, p6, l6, m6, z0, z1, z2, z3, z4, z5, z6, zv⟩, hcall⟩ := hX wr (HPB.out _ hS.out)
              obtain ⟨vn, hvn⟩ : ∃ n, (TrN.alts t)[p].1.vars.length = n := ⟨_, rfl⟩
              rw [hvn] at qv hhas
              have HH : Hid (Calls Tryd.prog 42 #[.slice ov vn cv, .string nm] wr fun e w' => e = .returned (.bool ((dl (TrN.alts t)[p].1.vars).contains nm.data.toList)) ∧ w' = wr) := hhas
              have HCl : Hid (Calls Tryd.prog 27 #[.agg #[.int .i64 k0, .string k1, .int .i64 k2, .slice p3 l3 m3, .slice p4 l4 m4, .slice p5 l5 m5, .slice p6 l6 m6], .string nm] wr fun e w' => e = .returned (.int .i64 (ofM d (TrN.alts t)[p].2 nm.data.toList : Nat)) ∧ Below wr.heap.size wr w') := hcall _ zv
              have hgw := HL.out g hg wr (HPB.out _ hS.out)
              have HF : Hid ((F3 (p + 1) = (if (dl (TrN.alts t)[p].1.vars).contains nm.data.toList then F3 p else eitherM (F3 p) (ofM d (TrN.alts t)[p].2 nm.data.toList))) ∧ 1 ≤ F3 p ∧ F3 p ≤ 5 ∧ 1 ≤ ofM d (TrN.alts t)[p].2 nm.data.toList ∧ ofM d (TrN.alts t)[p].2 nm.data.toList ≤ 5) := HF3.out.2 p hkl
              generalize ofM d (TrN.alts t)[p].2 nm.data.toList = oc at HCl HF
              generalize (dl (TrN.alts t)[p].1.vars).contains nm.data.toList = bh at HH HF
              clear hX hcall hhas zv hvn hkl hg HAl HF3
              go_wp2_with (go_at_call 42; fail)
              refine HH.out.mono ?_
              rintro e y0 ⟨rfl, e0⟩
              subst e0
              cases bh with
              | true =>
                clear HCl HH
                go_wp2
                go_roundw
                case rel => exact ⟨p + 1, hkn, by rw [HF.out.1]; rfl, by go_num, hS⟩
                case measure => simp [intOf]; omega
              | false =>
                go_wp2_with (go_at_call 27; fail)
                refine HCl.out.mono ?_
                rintro e y1 ⟨rfl, hb⟩
                have hS1 : Hid (PB y1) := HKb.out _ _ hS.out hb
                clear hb hS HCl HH q0 q1 q4 q5 q6 ql z0 z1 z2 z3 z4 z5 z6 hgw qv
                obtain ⟨q0, q1, q4, q5, q6, ql⟩ := HC.out y1 hS1.out
                go_wp2_with (go_at_call 66; fail)
                clear q0 q1 q4 q5 q6 ql
                refine (reither_c _ _ HF.out.2.1 HF.out.2.2.1 HF.out.2.2.2.1 HF.out.2.2.2.2 _).mono ?_
                rintro e y2 ⟨rfl, e2⟩
                subst e2
                go_wp2
                go_roundw
                case rel => exact ⟨p + 1, hkn, by rw [HF.out.1]; rfl, by go_num, hS1⟩
                case measure => simp [intOf]; omega
            · have hke : p = nl := by omega
              subst hke
              clear HAl HF3
              obtain ⟨q0, q1, q4, q5, q6, ql⟩ := HC.out wr hS.out
              go_wp2_with (go_at_call 65; fail)
              clear q0 q1 q4 q5 q6 ql
              refine (rboth_c _ _ _).mono ?_
              rintro e y2 ⟨rfl, e2⟩
              subst e2
              go_wp2
              go_ret
              exact ⟨rfl, HPB.out _ hS.out⟩
set_option maxHeartbeats 16000000 in
set_option maxRecDepth 100000 in
theorem rInLetNe_c (d : Nat) (ih : ROf d) (t : Tr (d + 1)) (va : Value) (B : Nat) (nm : ByteArray) (w : World) (ha : ExVal w B d t va) (hB : B ≤ w.heap.size) (ht : wM (d + 1) t ≤ 3000000) (hk : TrN.kind t = 1) (hn : ¬ TrN.name t = nm) :
    Calls Tryd.prog 44 #[va, .string nm] w fun e w' => e = .returned (.int .i64 (inN (fun e => ofM d e nm.data.toList) t nm.data.toList : Nat)) ∧ Below w.heap.size w w' := by
  obtain ⟨o3, c3, o4, c4, o5, c5, o6, c6, ea, k3, k4, k5, k6⟩ := id ha
  subst ea
  have hM := wM_succ t
  have lenB : (TrN.binds t).length ≤ (bndM t).length := by simp [bndM]
  have lenA : (TrN.args t).length ≤ ((TrN.args t).map (wM d)).sum := len_le_sum _ _ (fun x _ => wM_pos d x)
  have lenL : (TrN.alts t).length ≤ ((TrN.alts t).map (fun a => 4 * a.1.vars.length + wM d a.2)).sum := len_le_sum _ _ (fun x _ => by have := wM_pos d x.2; omega)
  have hmem : ∀ {α : Type} (f : α → Nat) (l : List α) (k : Nat) (h : k < l.length), f l[k] ≤ (l.map f).sum := fun f l k h => by
    have h1 := take_sum f l k h
    have h2 := take_le f l (k + 1)
    omega
  obtain ⟨n3, hn3⟩ : ∃ n, (TrN.params t).length = n := ⟨_, rfl⟩
  obtain ⟨nb, hnb⟩ : ∃ n, (TrN.binds t).length = n := ⟨_, rfl⟩
  obtain ⟨na, hna⟩ : ∃ n, (TrN.args t).length = n := ⟨_, rfl⟩
  obtain ⟨nl, hnl⟩ : ∃ n, (TrN.alts t).length = n := ⟨_, rfl⟩
  obtain ⟨em, hem⟩ : ∃ n, TrN.name t = n := ⟨_, rfl⟩
  obtain ⟨kd, hkd⟩ : ∃ n, TrN.kind t = n := ⟨_, rfl⟩
  obtain ⟨nu, hnu⟩ : ∃ n, TrN.num t = n := ⟨_, rfl⟩
  rw [hn3, hnb, hna, hnl, hem, hkd, hnu]
  obtain ⟨V, hV⟩ : ∃ V, w.alloc (.cells #[.int .i64 kd, .string em, .int .i64 nu, .slice o3 n3 c3, .slice o4 nb c4, .slice o5 na c5, .slice o6 nl c6] 29) = V := ⟨_, rfl⟩
  have kV : Blk V w.heap.size #[.int .i64 kd, .string em, .int .i64 nu, .slice o3 n3 c3, .slice o4 nb c4, .slice o5 na c5, .slice o6 nl c6] 29 := by rw [← hV]; exact Blk.new w _ _
  have bV : Below w.heap.size w V := by rw [← hV]; exact below1 w _
  obtain ⟨ab, hab⟩ : ∃ ab, w.heap.size = ab := ⟨_, rfl⟩
  have hsame : ∀ W, Below w.heap.size w W → ∀ g off, g < B → W.cell? ⟨g, off, none⟩ = w.cell? ⟨g, off, none⟩ := fun W hW g off hg => hW.cell (p := ⟨g, off, none⟩) (by show g < w.heap.size; omega)
  obtain ⟨PB, hPB⟩ : ∃ P : World → Prop, (fun W => Blk W ab #[.int .i64 kd, .string em, .int .i64 nu, .slice o3 n3 c3, .slice o4 nb c4, .slice o5 na c5, .slice o6 nl c6] 29 ∧ Below w.heap.size w W) = P := ⟨_, rfl⟩
  have HC : Hid (∀ W, PB W → W.cell? ⟨ab, 0, none⟩ = some (.int .i64 kd) ∧ W.cell? ⟨ab, 1, none⟩ = some (.string em) ∧ W.cell? ⟨ab, 4, none⟩ = some (.slice o4 nb c4) ∧ W.cell? ⟨ab, 5, none⟩ = some (.slice o5 na c5) ∧ W.cell? ⟨ab, 6, none⟩ = some (.slice o6 nl c6) ∧ ab < W.heap.size) := by
    intro W hW
    rw [← hPB] at hW
    obtain ⟨hk, -⟩ := hW
    exact ⟨hk.cell 0 _ rfl, hk.cell 1 _ rfl, hk.cell 4 _ rfl, hk.cell 5 _ rfl, hk.cell 6 _ rfl, hk.lt⟩
  have HPB : Hid (∀ W, PB W → Below w.heap.size w W) := fun W hW => by rw [← hPB] at hW; exact hW.2
  have HBn : Hid (∀ k (hk : k < (TrN.binds t).length), ∃ g off, o4 = some ⟨g, off, none⟩ ∧ g < w.heap.size ∧ ∀ W, Below w.heap.size w W → Ld7 W B d (TrN.binds t)[k].2 g (off + k * 8 + 1) ∧ ∀ v, ExVd W B d (TrN.binds t)[k].2 v → Calls Tryd.prog 27 #[v, .string nm] W fun e w' => e = .returned (.int .i64 (ofM d (TrN.binds t)[k].2 nm.data.toList : Nat)) ∧ Below W.heap.size W w') := by
    intro k hk
    rcases k4 with h9 | ⟨g, off, e, hg, h9⟩
    · rw [h9] at hk; cases hk
    · refine ⟨g, off, e, by omega, fun W hW => ⟨ld7 d _ _ _ (ExAt.same (hsame W hW) d _ _ _ (h9 k hk).2), fun v hv => ih _ v B nm W hv (by have := hW.size; omega) (by have := hmem (fun b : ByteArray × Tr d => wM d b.2) (TrN.binds t) k hk; omega)⟩⟩
  have HAr : Hid (∀ k (hk : k < (TrN.args t).length), ∃ g off, o5 = some ⟨g, off, none⟩ ∧ g < w.heap.size ∧ ∀ W, Below w.heap.size w W → Ld7 W B d (TrN.args t)[k] g (off + k * 7) ∧ ∀ v, ExVd W B d (TrN.args t)[k] v → Calls Tryd.prog 27 #[v, .string nm] W fun e w' => e = .returned (.int .i64 (ofM d (TrN.args t)[k] nm.data.toList : Nat)) ∧ Below W.heap.size W w') := by
    intro k hk
    rcases k5 with h9 | ⟨g, off, e, hg, h9⟩
    · rw [h9] at hk; cases hk
    · refine ⟨g, off, e, by omega, fun W hW => ⟨ld7 d _ _ _ (ExAt.same (hsame W hW) d _ _ _ (h9 k hk)), fun v hv => ih _ v B nm W hv (by have := hW.size; omega) (by have := hmem (wM d) (TrN.args t) k hk; omega)⟩⟩
  have HAl : Hid (∀ k (hk : k < (TrN.alts t).length), ∃ g off, o6 = some ⟨g, off, none⟩ ∧ g < w.heap.size ∧ ∀ W, Below w.heap.size w W → (∃ ov cv, W.cell? ⟨g, off + k * 11 + 3, none⟩ = some (.slice ov (TrN.alts t)[k].1.vars.length cv) ∧ Calls Tryd.prog 42 #[.slice ov (TrN.alts t)[k].1.vars.length cv, .string nm] W fun e w' => e = .returned (.bool ((dl (TrN.alts t)[k].1.vars).contains nm.data.toList)) ∧ w' = W) ∧ Ld7 W B d (TrN.alts t)[k].2 g (off + k * 11 + 4) ∧ ∀ v, ExVd W B d (TrN.alts t)[k].2 v → Calls Tryd.prog 27 #[v, .string nm] W fun e w' => e = .returned (.int .i64 (ofM d (TrN.alts t)[k].2 nm.data.toList : Nat)) ∧ Below W.heap.size W w') := by
    intro k hk
    rcases k6 with h9 | ⟨g, off, e, hg, h9⟩
    · rw [h9] at hk; cases hk
    · have hm := hmem (fun a : AltH × Tr d => 4 * a.1.vars.length + wM d a.2) (TrN.alts t) k hk
      obtain ⟨-, -, -, ⟨ov, cv, q3, q4⟩, q5⟩ := h9 k hk
      refine ⟨g, off, e, by omega, fun W hW => ⟨⟨ov, cv, (hsame W hW _ _ hg).trans q3, rhas_c _ ov cv B nm W (q4.same (hsame W hW)) (by have := hW.size; omega) (by omega)⟩, ld7 d _ _ _ (ExAt.same (hsame W hW) d _ _ _ q5), fun v hv => ih _ v B nm W hv (by have := hW.size; omega) (by omega)⟩⟩
  have HN : Hid ((TrN.binds t).length = nb ∧ (TrN.args t).length = na ∧ (TrN.alts t).length = nl) := ⟨hnb, hna, hnl⟩
  have HV0 : Hid (isV t nm.data.toList = false) := by
    have h : isV t nm.data.toList = false := by
      unfold isV
      rw [hkd, hem]
      simp only [show kd = 1 from hkd ▸ hk, beq_self_eq_true, Bool.true_and]; exact beq_eq_false_iff_ne.2 (fun h => hn (hem.trans (ba_ext h.symm)))
    exact h
  have HL : Hid (∀ g', g' < w.heap.size → ∀ W, Below w.heap.size w W → g' < W.heap.size) := fun g' h1 W hW => Nat.lt_of_lt_of_le h1 hW.size
  have hnbI : (nb : Int) ≤ 3000000 := by omega
  have hnaI : (na : Int) ≤ 3000000 := by omega
  have hnlI : (nl : Int) ≤ 3000000 := by omega
  have HKV : Hid (PB V) := by
    have h : PB V := by rw [← hPB]; exact ⟨by rw [← hab]; exact kV, bV⟩
    exact h
  have HKb : Hid (∀ W W', PB W → Below W.heap.size W W' → PB W') := fun W W' h hb => by
    rw [← hPB] at h ⊢
    exact ⟨h.1.below hb, h.2.trans (hb.mono h.2.size)⟩
  obtain ⟨F1, hF1⟩ : ∃ F : Nat → Nat, (fun k => ((TrN.binds t).take k).foldl (fun o b => bothM o (ofM d b.2 nm.data.toList)) 1) = F := ⟨_, rfl⟩
  have HF1 : Hid (F1 0 = 1 ∧ ∀ k (h : k < (TrN.binds t).length), F1 (k + 1) = bothM (F1 k) (ofM d (TrN.binds t)[k].2 nm.data.toList)) := ⟨by rw [← hF1]; rfl, fun k h => by rw [← hF1]; exact fold_at _ _ k h _⟩
  obtain ⟨F2, hF2⟩ : ∃ F : Nat → Nat, (fun k => ((TrN.args t).take k).foldl (fun o e => bothM o (ofM d e nm.data.toList)) (F1 nb)) = F := ⟨_, rfl⟩
  have HF2 : Hid (F2 0 = F1 nb ∧ ∀ k (h : k < (TrN.args t).length), F2 (k + 1) = bothM (F2 k) (ofM d (TrN.args t)[k] nm.data.toList)) := ⟨by rw [← hF2]; rfl, fun k h => by rw [← hF2]; exact fold_at _ _ k h _⟩
  obtain ⟨F3, hF3⟩ : ∃ F : Nat → Nat, (fun k => ((TrN.alts t).take k).foldl (fun o a => if (dl a.1.vars).contains nm.data.toList then o else eitherM o (ofM d a.2 nm.data.toList)) 1) = F := ⟨_, rfl⟩
  have HF3 : Hid (F3 0 = 1 ∧ ∀ k (h : k < (TrN.alts t).length), F3 (k + 1) = (if (dl (TrN.alts t)[k].1.vars).contains nm.data.toList then F3 k else eitherM (F3 k) (ofM d (TrN.alts t)[k].2 nm.data.toList)) ∧ 1 ≤ F3 k ∧ F3 k ≤ 5 ∧ 1 ≤ ofM d (TrN.alts t)[k].2 nm.data.toList ∧ ofM d (TrN.alts t)[k].2 nm.data.toList ≤ 5) := ⟨by rw [← hF3]; rfl, fun k h => ⟨by rw [← hF3]; exact fold_at _ _ k h _, by rw [← hF3]; exact (gg_alts _ _).1, by rw [← hF3]; exact (gg_alts _ _).2, ofM_rg _ _ _⟩⟩
  have HE : Hid (inN (fun e => ofM d e nm.data.toList) t nm.data.toList = bothM (F2 na) (F3 nl)) := by
    have h : inN (fun e => ofM d e nm.data.toList) t nm.data.toList = bothM (F2 na) (F3 nl) := by
      unfold inN
      rw [HV0.out, ← hF2, ← hF3, ← hF1, ← hnb, ← hna, ← hnl]
      simp only [List.take_length]
      rfl
    exact h
  rw [HE.out]
  have hkd1 : kd = 1 := hkd ▸ hk
  have hem1 : ¬ em = nm := fun h => hn (hem.trans h)
  have hem2 : (em.toList == nm.toList) = false := beq_eq_false_iff_ne.2 (fun e => hem1 (ba_ext (by rw [ByteArray.toList_eq, ByteArray.toList_eq] at e; exact e)))
  rw [hkd, hem] at *
  clear ha hB ht k3 k4 k5 k6 hM lenB lenA lenL hmem hsame kV bV hn3 hnb hna hnl hem hkd hnu ih hF1 hF2 hF3 HE HV0 hk hn
  subst hkd1
  go_enter Tryd.func44, Tryd.ntmps44
  go_upto_region 1 with fail
  (try rw [hV])
  (try rw [hab])
  clear hV hab hPB
  obtain ⟨q0, q1, q4, q5, q6, ql⟩ := HC.out V HKV.out
  go_wp2
  clear q0 q1 q4 q5 q6 ql
  go_loopw [5, 6] (fun ov i wr => ∃ k : Nat, k ≤ nb ∧ ov = .int .i64 (F1 k : Nat) ∧ i = .int .i64 k ∧ Hid (PB wr)) (fun _ i _ => nb - (intOf i).toNat)
  case atStart => exact ⟨0, Nat.zero_le _, by rw [HF1.out.1]; rfl, rfl, HKV⟩
  case round =>
    obtain ⟨k, hk, rfl, rfl, hS⟩ := hrel
    clear HKV
    by_cases hkn : k < nb
    · have hkl : k < (TrN.binds t).length := by rw [HN.out.1]; exact hkn
      obtain ⟨g, off, rfl, hg, hX⟩ := HBn.out k hkl
      obtain ⟨q0, q1, q4, q5, q6, ql⟩ := HC.out wr hS.out
      obtain ⟨⟨k0, k1, k2, p3, l3, m3, p4, l4, m4, p5, l5, m5, p6, l6, m6, z0, z1, z2, z3, z4, z5, z6, zv⟩, hcall⟩ := hX wr (HPB.out _ hS.out)
      have HCl : Hid (Calls Tryd.prog 27 #[.agg #[.int .i64 k0, .string k1, .int .i64 k2, .slice p3 l3 m3, .slice p4 l4 m4, .slice p5 l5 m5, .slice p6 l6 m6], .string nm] wr fun e w' => e = .returned (.int .i64 (ofM d (TrN.binds t)[k].2 nm.data.toList : Nat)) ∧ Below wr.heap.size wr w') := hcall _ zv
      have hgw := HL.out g hg wr (HPB.out _ hS.out)
      have HF : Hid (F1 (k + 1) = bothM (F1 k) (ofM d (TrN.binds t)[k].2 nm.data.toList)) := HF1.out.2 k hkl
      generalize ofM d (TrN.binds t)[k].2 nm.data.toList = oc at HCl HF
      clear hX hcall zv hkl hg HBn HAr HAl HF1 HF2 HF3
      go_wp2_with (go_at_call 27; fail)
      refine HCl.out.mono ?_
      rintro e y1 ⟨rfl, hb⟩
      have hS1 : Hid (PB y1) := HKb.out _ _ hS.out hb
      clear hb hS HCl q0 q1 q4 q5 q6 ql z0 z1 z2 z3 z4 z5 z6 hgw
      obtain ⟨q0, q1, q4, q5, q6, ql⟩ := HC.out y1 hS1.out
      go_wp2_with (go_at_call 65; fail)
      clear q0 q1 q4 q5 q6 ql
      refine (rboth_c _ _ _).mono ?_
      rintro e y2 ⟨rfl, e2⟩
      subst e2
      go_wp2
      go_roundw
      case rel => exact ⟨k + 1, hkn, by rw [HF.out], by go_num, hS1⟩
      case measure => simp [intOf]; omega
    · have hke : k = nb := by omega
      subst hke
      clear HBn HF1
      obtain ⟨q0, q1, q4, q5, q6, ql⟩ := HC.out wr hS.out
      go_wp2
      clear q0 q1 q4 q5 q6 ql
      go_loopw [5, 7] (fun ov i wr => ∃ k : Nat, k ≤ na ∧ ov = .int .i64 (F2 k : Nat) ∧ i = .int .i64 k ∧ Hid (PB wr)) (fun _ i _ => na - (intOf i).toNat)
      case atStart => exact ⟨0, Nat.zero_le _, by rw [HF2.out.1], rfl, hS⟩
      case round =>
        clear hS hk hkn
        obtain ⟨j, hj, rfl, rfl, hS⟩ := hrel
        by_cases hkn : j < na
        · have hkl : j < (TrN.args t).length := by rw [HN.out.2.1]; exact hkn
          obtain ⟨g, off, rfl, hg, hX⟩ := HAr.out j hkl
          obtain ⟨q0, q1, q4, q5, q6, ql⟩ := HC.out wr hS.out
          obtain ⟨⟨k0, k1, k2, p3, l3, m3, p4, l4, m4, p5, l5, m5, p6, l6, m6, z0, z1, z2, z3, z4, z5, z6, zv⟩, hcall⟩ := hX wr (HPB.out _ hS.out)
          have HCl : Hid (Calls Tryd.prog 27 #[.agg #[.int .i64 k0, .string k1, .int .i64 k2, .slice p3 l3 m3, .slice p4 l4 m4, .slice p5 l5 m5, .slice p6 l6 m6], .string nm] wr fun e w' => e = .returned (.int .i64 (ofM d (TrN.args t)[j] nm.data.toList : Nat)) ∧ Below wr.heap.size wr w') := hcall _ zv
          have hgw := HL.out g hg wr (HPB.out _ hS.out)
          have HF : Hid (F2 (j + 1) = bothM (F2 j) (ofM d (TrN.args t)[j] nm.data.toList)) := HF2.out.2 j hkl
          generalize ofM d (TrN.args t)[j] nm.data.toList = oc at HCl HF
          clear hX hcall zv hkl hg HAr HAl HF2 HF3
          go_wp2_with (go_at_call 27; fail)
          refine HCl.out.mono ?_
          rintro e y1 ⟨rfl, hb⟩
          have hS1 : Hid (PB y1) := HKb.out _ _ hS.out hb
          clear hb hS HCl q0 q1 q4 q5 q6 ql z0 z1 z2 z3 z4 z5 z6 hgw
          obtain ⟨q0, q1, q4, q5, q6, ql⟩ := HC.out y1 hS1.out
          go_wp2_with (go_at_call 65; fail)
          clear q0 q1 q4 q5 q6 ql
          refine (rboth_c _ _ _).mono ?_
          rintro e y2 ⟨rfl, e2⟩
          subst e2
          go_wp2
          go_roundw
          case rel => exact ⟨j + 1, hkn, by rw [HF.out], by go_num, hS1⟩
          case measure => simp [intOf]; omega
        · have hke : j = na := by omega
          subst hke
          clear HAr HF2
          obtain ⟨q0, q1, q4, q5, q6, ql⟩ := HC.out wr hS.out
          go_wp2
          clear q0 q1 q4 q5 q6 ql
          go_loopw [8, 9] (fun ov i wr => ∃ k : Nat, k ≤ nl ∧ ov = .int .i64 (F3 k : Nat) ∧ i = .int .i64 k ∧ Hid (PB wr)) (fun _ i _ => nl - (intOf i).toNat)
          case atStart => exact ⟨0, Nat.zero_le _, by rw [HF3.out.1]; rfl, rfl, hS⟩
          case round =>
            clear hS hj hkn
            obtain ⟨p, hp, rfl, rfl, hS⟩ := hrel
            by_cases hkn : p < nl
            · have hkl : p < (TrN.alts t).length := by rw [HN.out.2.2]; exact hkn
              obtain ⟨g, off, rfl, hg, hX⟩ := HAl.out p hkl
              obtain ⟨q0, q1, q4, q5, q6, ql⟩ := HC.out wr hS.out
              obtain ⟨⟨ov, cv, qv, hhas⟩, ⟨k0, k1, k2, p3, l3, m3, p4, l4, m4, p5, l5, m5, p6, l6, m6, z0, z1, z2, z3, z4, z5, z6, zv⟩, hcall⟩ := hX wr (HPB.out _ hS.out)
              obtain ⟨vn, hvn⟩ : ∃ n, (TrN.alts t)[p].1.vars.length = n := ⟨_, rfl⟩
              rw [hvn] at qv hhas
              have HH : Hid (Calls Tryd.prog 42 #[.slice ov vn cv, .string nm] wr fun e w' => e = .returned (.bool ((dl (TrN.alts t)[p].1.vars).contains nm.data.toList)) ∧ w' = wr) := hhas
              have HCl : Hid (Calls Tryd.prog 27 #[.agg #[.int .i64 k0, .string k1, .int .i64 k2, .slice p3 l3 m3, .slice p4 l4 m4, .slice p5 l5 m5, .slice p6 l6 m6], .string nm] wr fun e w' => e = .returned (.int .i64 (ofM d (TrN.alts t)[p].2 nm.data.toList : Nat)) ∧ Below wr.heap.size wr w') := hcall _ zv
              have hgw := HL.out g hg wr (HPB.out _ hS.out)
              have HF : Hid ((F3 (p + 1) = (if (dl (TrN.alts t)[p].1.vars).contains nm.data.toList then F3 p else eitherM (F3 p) (ofM d (TrN.alts t)[p].2 nm.data.toList))) ∧ 1 ≤ F3 p ∧ F3 p ≤ 5 ∧ 1 ≤ ofM d (TrN.alts t)[p].2 nm.data.toList ∧ ofM d (TrN.alts t)[p].2 nm.data.toList ≤ 5) := HF3.out.2 p hkl
              generalize ofM d (TrN.alts t)[p].2 nm.data.toList = oc at HCl HF
              generalize (dl (TrN.alts t)[p].1.vars).contains nm.data.toList = bh at HH HF
              clear hX hcall hhas zv hvn hkl hg HAl HF3
              go_wp2_with (go_at_call 42; fail)
              refine HH.out.mono ?_
              rintro e y0 ⟨rfl, e0⟩
              subst e0
              cases bh with
              | true =>
                clear HCl HH
                go_wp2
                go_roundw
                case rel => exact ⟨p + 1, hkn, by rw [HF.out.1]; rfl, by go_num, hS⟩
                case measure => simp [intOf]; omega
              | false =>
                go_wp2_with (go_at_call 27; fail)
                refine HCl.out.mono ?_
                rintro e y1 ⟨rfl, hb⟩
                have hS1 : Hid (PB y1) := HKb.out _ _ hS.out hb
                clear hb hS HCl HH q0 q1 q4 q5 q6 ql z0 z1 z2 z3 z4 z5 z6 hgw qv
                obtain ⟨q0, q1, q4, q5, q6, ql⟩ := HC.out y1 hS1.out
                go_wp2_with (go_at_call 66; fail)
                clear q0 q1 q4 q5 q6 ql
                refine (reither_c _ _ HF.out.2.1 HF.out.2.2.1 HF.out.2.2.2.1 HF.out.2.2.2.2 _).mono ?_
                rintro e y2 ⟨rfl, e2⟩
                subst e2
                go_wp2
                go_roundw
                case rel => exact ⟨p + 1, hkn, by rw [HF.out.1]; rfl, by go_num, hS1⟩
                case measure => simp [intOf]; omega
            · have hke : p = nl := by omega
              subst hke
              clear HAl HF3
              obtain ⟨q0, q1, q4, q5, q6, ql⟩ := HC.out wr hS.out
              go_wp2_with (go_at_call 65; fail)
              clear q0 q1 q4 q5 q6 ql
              refine (rboth_c _ _ _).mono ?_
              rintro e y2 ⟨rfl, e2⟩
              subst e2
              go_wp2
              go_ret
              exact ⟨rfl, HPB.out _ hS.out⟩
theorem rInLet_c (d : Nat) (ih : ROf d) (t : Tr (d + 1)) (va : Value) (B : Nat) (nm : ByteArray) (w : World) (ha : ExVal w B d t va) (hB : B ≤ w.heap.size) (ht : wM (d + 1) t ≤ 3000000) :
    Calls Tryd.prog 44 #[va, .string nm] w fun e w' => e = .returned (.int .i64 (inN (fun e => ofM d e nm.data.toList) t nm.data.toList : Nat)) ∧ Below w.heap.size w w' := by
  by_cases hk : TrN.kind t = 1
  · by_cases hn : TrN.name t = nm
    · exact rInLetYes_c d ih t va B nm w ha hB ht hk hn
    · exact rInLetNe_c d ih t va B nm w ha hB ht hk hn
  · exact rInLetNo_c d ih t va B nm w ha hB ht hk
end Go.Proofs.YtjmpjfggbhongaaDoor
