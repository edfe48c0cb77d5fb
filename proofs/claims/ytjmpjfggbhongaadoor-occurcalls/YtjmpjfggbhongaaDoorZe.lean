/-
  The document's answer for occurrences (thunkmillref16): count, by a contract.
-/
import Derived.Test.YtjmpjfggbhongaaDoorZd
namespace Go.Proofs.YtjmpjfggbhongaaDoor
open Go.RowKit Go.Shelf Go.Maps
set_option linter.unusedVariables false

/-- What count does with an expression of a depth. -/
def RCt (d : Nat) : Prop := ∀ (t : Tr d) (v : Value) (B : Nat) (nm : ByteArray) (w : World), ExVd w B d t v → B ≤ w.heap.size → wM d t ≤ 3000000 →
  Calls Tryd.prog 28 #[v, .string nm] w fun e w' => e = .returned (.int .i64 (cntN d t nm.data.toList : Nat)) ∧ Below w.heap.size w w'
theorem sumLe4 {α : Type} (f g : α → Nat) (h : ∀ x, 4 * f x ≤ g x) : ∀ l : List α, 4 * (l.map f).sum ≤ (l.map g).sum
  | [] => Nat.le_refl _
  | a :: l => by
    rw [List.map_cons, List.map_cons, List.sum_cons, List.sum_cons]
    have := sumLe4 f g h l
    have := h a
    omega
def cntIn {d : Nat} (t : Tr (d + 1)) (x : List UInt8) : Nat := (if isV t x then 1 else 0) + ((TrN.binds t).map (fun b => cntN d b.2 x)).sum + ((TrN.args t).map (fun e => cntN d e x)).sum + ((TrN.alts t).map (fun a => if (dl a.1.vars).contains x then 0 else cntN d a.2 x)).sum
theorem cntSucc {d : Nat} (t : Tr (d + 1)) (x : List UInt8) : cntN (d + 1) t x = if hidM t x then 0 else cntIn t x := rfl
theorem cntIn_four {d : Nat} (h : ∀ (t : Tr d) (x : List UInt8), 4 * cntN d t x ≤ wM d t) (t : Tr (d + 1)) (x : List UInt8) : 4 * cntIn t x ≤ wM (d + 1) t := by
  have hM := wM_succ t
  have h1 := sumLe4 (fun b : ByteArray × Tr d => cntN d b.2 x) (fun b => wM d b.2) (fun b => h b.2 x) (TrN.binds t)
  have h2 := sumLe4 (fun e : Tr d => cntN d e x) (wM d) (fun e => h e x) (TrN.args t)
  have h3 := sumLe4 (fun a : AltH × Tr d => if (dl a.1.vars).contains x then 0 else cntN d a.2 x) (fun a => 4 * a.1.vars.length + wM d a.2) (fun a => by
    have := h a.2 x
    split <;> omega) (TrN.alts t)
  have h0 : (if isV t x then 1 else 0) ≤ 1 := by split <;> decide
  unfold cntIn
  omega
theorem cntFour : ∀ (d : Nat) (t : Tr d) (x : List UInt8), 4 * cntN d t x ≤ wM d t
  | 0, t, _ => nomatch t
  | d + 1, t, x => by
    rw [cntSucc]
    split
    · exact Nat.zero_le _
    · exact cntIn_four (cntFour d) t x
set_option maxHeartbeats 16000000 in
set_option maxRecDepth 100000 in
theorem rcountNo_c (d : Nat) (ih : RCt d) (t : Tr (d + 1)) (va : Value) (B : Nat) (nm : ByteArray) (w : World) (ha : ExVal w B d t va) (hB : B ≤ w.heap.size) (ht : wM (d + 1) t ≤ 3000000) (hk : ¬ TrN.kind t = 1) :
    Calls Tryd.prog 28 #[va, .string nm] w fun e w' => e = .returned (.int .i64 (cntN (d + 1) t nm.data.toList : Nat)) ∧ Below w.heap.size w w' := by
  obtain ⟨o3, c3, o4, c4, o5, c5, o6, c6, ea, k3, k4, k5, k6⟩ := id ha
  subst ea
  have hM := wM_succ t
  have lenB : (TrN.binds t).length ≤ (bndM t).length := by simp [bndM]
  have lenA : (TrN.args t).length ≤ ((TrN.args t).map (wM d)).sum := len_le_sum _ _ (fun x _ => wM_pos d x)
  have lenL : (TrN.alts t).length ≤ ((TrN.alts t).map (fun a => 4 * a.1.vars.length + wM d a.2)).sum := len_le_sum _ _ (fun x _ => by have := wM_pos d x.2; omega)
  have hmem : ∀ {α : Type} (f : α → Nat) (l : List α) (k : Nat) (h : k < l.length), f l[k] ≤ (l.map f).sum := fun f l k h => by
    have h1 := take_sum f l k h
    have h2 := take_le f l (k + 1)
    omega
  obtain ⟨n3, hn3⟩ : ∃ n, (TrN.params t).length = n := ⟨_, rfl⟩
  obtain ⟨nb, hnb⟩ : ∃ n, (TrN.binds t).length = n := ⟨_, rfl⟩
  obtain ⟨na, hna⟩ : ∃ n, (TrN.args t).length = n := ⟨_, rfl⟩
  obtain ⟨nl, hnl⟩ : ∃ n, (TrN.alts t).length = n := ⟨_, rfl⟩
  obtain ⟨em, hem⟩ : ∃ n, TrN.name t = n := ⟨_, rfl⟩
  obtain ⟨kd, hkd⟩ : ∃ n, TrN.kind t = n := ⟨_, rfl⟩
  obtain ⟨nu, hnu⟩ : ∃ n, TrN.num t = n := ⟨_, rfl⟩
  rw [hn3, hnb, hna, hnl, hem, hkd, hnu]
  obtain ⟨V, hV⟩ : ∃ V, w.alloc (.cells #[.int .i64 kd, .string em, .int .i64 nu, .slice o3 n3 c3, .slice o4 nb c4, .slice o5 na c5, .slice o6 nl c6] 29) = V := ⟨_, rfl⟩
  have kV : Blk V w.heap.size #[.int .i64 kd, .string em, .int .i64 nu, .slice o3 n3 c3, .slice o4 nb c4, .slice o5 na c5, .slice o6 nl c6] 29 := by rw [← hV]; exact Blk.new w _ _
  have bV : Below w.heap.size w V := by rw [← hV]; exact below1 w _
  obtain ⟨ab, hab⟩ : ∃ ab, w.heap.size = ab := ⟨_, rfl⟩
  have hsame : ∀ W, Below w.heap.size w W → ∀ g off, g < B → W.cell? ⟨g, off, none⟩ = w.cell? ⟨g, off, none⟩ := fun W hW g off hg => hW.cell (p := ⟨g, off, none⟩) (by show g < w.heap.size; omega)
  obtain ⟨PB, hPB⟩ : ∃ P : World → Prop, (fun W => Blk W ab #[.int .i64 kd, .string em, .int .i64 nu, .slice o3 n3 c3, .slice o4 nb c4, .slice o5 na c5, .slice o6 nl c6] 29 ∧ Below w.heap.size w W) = P := ⟨_, rfl⟩
  have HC : Hid (∀ W, PB W → W.cell? ⟨ab, 0, none⟩ = some (.int .i64 kd) ∧ W.cell? ⟨ab, 1, none⟩ = some (.string em) ∧ W.cell? ⟨ab, 3, none⟩ = some (.slice o3 n3 c3) ∧ W.cell? ⟨ab, 4, none⟩ = some (.slice o4 nb c4) ∧ W.cell? ⟨ab, 5, none⟩ = some (.slice o5 na c5) ∧ W.cell? ⟨ab, 6, none⟩ = some (.slice o6 nl c6) ∧ ab < W.heap.size) := by
    intro W hW
    rw [← hPB] at hW
    obtain ⟨hk, -⟩ := hW
    exact ⟨hk.cell 0 _ rfl, hk.cell 1 _ rfl, hk.cell 3 _ rfl, hk.cell 4 _ rfl, hk.cell 5 _ rfl, hk.cell 6 _ rfl, hk.lt⟩
  have HPB : Hid (∀ W, PB W → Below w.heap.size w W) := fun W hW => by rw [← hPB] at hW; exact hW.2
  have lenP : (TrN.params t).length ≤ (bndM t).length := by simp [bndM]
  have HP : Hid (∀ W, Below w.heap.size w W → Calls Tryd.prog 42 #[.slice o3 n3 c3, .string nm] W fun e w' => e = .returned (.bool ((dl (TrN.params t)).contains nm.data.toList)) ∧ w' = W) := fun W hW => by
    rw [← hn3]
    exact rhas_c _ o3 c3 B nm W (k3.same (hsame W hW)) (by have := hW.size; omega) (by omega)
  have HBd : Hid (∀ W, Below w.heap.size w W → Calls Tryd.prog 43 #[.slice o4 nb c4] W fun e w' => ∃ o' c', e = .returned (.slice o' nb c') ∧ TxIn w' w'.heap.size o' ((TrN.binds t).map Prod.fst) ∧ Below W.heap.size W w') := fun W hW => by
    rw [← hnb]
    exact rbindNames_c d _ o4 c4 B W (k4.mono (fun x g off hg h => ⟨(hsame W hW _ _ hg).trans h.1, ExAt.same (hsame W hW) d _ _ _ h.2⟩)) (by have := hW.size; omega) (by omega)
  have HHs : Hid (∀ W o' c', TxIn W W.heap.size o' ((TrN.binds t).map Prod.fst) → Calls Tryd.prog 42 #[.slice o' nb c', .string nm] W fun e w' => e = .returned (.bool ((dl ((TrN.binds t).map Prod.fst)).contains nm.data.toList)) ∧ w' = W) := fun W o' c' h => by
    have := rhas_c _ o' c' W.heap.size nm W h (Nat.le_refl _) (by rw [List.length_map]; omega)
    rw [List.length_map, hnb] at this
    exact this
  have HBn : Hid (∀ k (hk : k < (TrN.binds t).length), ∃ g off, o4 = some ⟨g, off, none⟩ ∧ g < w.heap.size ∧ ∀ W, Below w.heap.size w W → Ld7 W B d (TrN.binds t)[k].2 g (off + k * 8 + 1) ∧ ∀ v, ExVd W B d (TrN.binds t)[k].2 v → Calls Tryd.prog 28 #[v, .string nm] W fun e w' => e = .returned (.int .i64 (cntN d (TrN.binds t)[k].2 nm.data.toList : Nat)) ∧ Below W.heap.size W w') := by
    intro k hk
    rcases k4 with h9 | ⟨g, off, e, hg, h9⟩
    · rw [h9] at hk; cases hk
    · refine ⟨g, off, e, by omega, fun W hW => ⟨ld7 d _ _ _ (ExAt.same (hsame W hW) d _ _ _ (h9 k hk).2), fun v hv => ih _ v B nm W hv (by have := hW.size; omega) (by have := hmem (fun b : ByteArray × Tr d => wM d b.2) (TrN.binds t) k hk; omega)⟩⟩
  have HAr : Hid (∀ k (hk : k < (TrN.args t).length), ∃ g off, o5 = some ⟨g, off, none⟩ ∧ g < w.heap.size ∧ ∀ W, Below w.heap.size w W → Ld7 W B d (TrN.args t)[k] g (off + k * 7) ∧ ∀ v, ExVd W B d (TrN.args t)[k] v → Calls Tryd.prog 28 #[v, .string nm] W fun e w' => e = .returned (.int .i64 (cntN d (TrN.args t)[k] nm.data.toList : Nat)) ∧ Below W.heap.size W w') := by
    intro k hk
    rcases k5 with h9 | ⟨g, off, e, hg, h9⟩
    · rw [h9] at hk; cases hk
    · refine ⟨g, off, e, by omega, fun W hW => ⟨ld7 d _ _ _ (ExAt.same (hsame W hW) d _ _ _ (h9 k hk)), fun v hv => ih _ v B nm W hv (by have := hW.size; omega) (by have := hmem (wM d) (TrN.args t) k hk; omega)⟩⟩
  have HAl : Hid (∀ k (hk : k < (TrN.alts t).length), ∃ g off, o6 = some ⟨g, off, none⟩ ∧ g < w.heap.size ∧ ∀ W, Below w.heap.size w W → (∃ ov cv, W.cell? ⟨g, off + k * 11 + 3, none⟩ = some (.slice ov (TrN.alts t)[k].1.vars.length cv) ∧ Calls Tryd.prog 42 #[.slice ov (TrN.alts t)[k].1.vars.length cv, .string nm] W fun e w' => e = .returned (.bool ((dl (TrN.alts t)[k].1.vars).contains nm.data.toList)) ∧ w' = W) ∧ Ld7 W B d (TrN.alts t)[k].2 g (off + k * 11 + 4) ∧ ∀ v, ExVd W B d (TrN.alts t)[k].2 v → Calls Tryd.prog 28 #[v, .string nm] W fun e w' => e = .returned (.int .i64 (cntN d (TrN.alts t)[k].2 nm.data.toList : Nat)) ∧ Below W.heap.size W w') := by
    intro k hk
    rcases k6 with h9 | ⟨g, off, e, hg, h9⟩
    · rw [h9] at hk; cases hk
    · have hm := hmem (fun a : AltH × Tr d => 4 * a.1.vars.length + wM d a.2) (TrN.alts t) k hk
      obtain ⟨-, -, -, ⟨ov, cv, q3, q4⟩, q5⟩ := h9 k hk
      refine ⟨g, off, e, by omega, fun W hW => ⟨⟨ov, cv, (hsame W hW _ _ hg).trans q3, rhas_c _ ov cv B nm W (q4.same (hsame W hW)) (by have := hW.size; omega) (by omega)⟩, ld7 d _ _ _ (ExAt.same (hsame W hW) d _ _ _ q5), fun v hv => ih _ v B nm W hv (by have := hW.size; omega) (by omega)⟩⟩
  have HN : Hid ((TrN.binds t).length = nb ∧ (TrN.args t).length = na ∧ (TrN.alts t).length = nl) := ⟨hnb, hna, hnl⟩
  have HV0 : Hid (isV t nm.data.toList = false) := by
    have h : isV t nm.data.toList = false := by
      unfold isV
      rw [hkd, hem]
      simp [show ¬ kd = 1 from hkd ▸ hk]
    exact h
  have HL : Hid (∀ g', g' < w.heap.size → ∀ W, Below w.heap.size w W → g' < W.heap.size) := fun g' h1 W hW => Nat.lt_of_lt_of_le h1 hW.size
  have hnbI : (nb : Int) ≤ 3000000 := by omega
  have hnaI : (na : Int) ≤ 3000000 := by omega
  have hnlI : (nl : Int) ≤ 3000000 := by omega
  have HKV : Hid (PB V) := by
    have h : PB V := by rw [← hPB]; exact ⟨by rw [← hab]; exact kV, bV⟩
    exact h
  have HKb : Hid (∀ W W', PB W → Below W.heap.size W W' → PB W') := fun W W' h hb => by
    rw [← hPB] at h ⊢
    exact ⟨h.1.below hb, h.2.trans (hb.mono h.2.size)⟩
  have hT : 0 + ((TrN.binds t).map (fun b => cntN d b.2 nm.data.toList)).sum + ((TrN.args t).map (fun e => cntN d e nm.data.toList)).sum + ((TrN.alts t).map (fun a => if (dl a.1.vars).contains nm.data.toList then 0 else cntN d a.2 nm.data.toList)).sum ≤ 3000000 := by
    have h := cntIn_four (cntFour d) t nm.data.toList
    unfold cntIn at h
    rw [HV0.out] at h
    have e : (if false = true then 1 else 0) = (0 : Nat) := rfl
    rw [e] at h
    omega
  have t1 := take_le (fun b : ByteArray × Tr d => cntN d b.2 nm.data.toList) (TrN.binds t)
  have t2 := take_le (fun e : Tr d => cntN d e nm.data.toList) (TrN.args t)
  have t3 := take_le (fun a : AltH × Tr d => if (dl a.1.vars).contains nm.data.toList then 0 else cntN d a.2 nm.data.toList) (TrN.alts t)
  obtain ⟨F1, hF1⟩ : ∃ F : Nat → Nat, (fun k => 0 + (((TrN.binds t).take k).map (fun b => cntN d b.2 nm.data.toList)).sum) = F := ⟨_, rfl⟩
  have e1 : F1 nb = 0 + ((TrN.binds t).map (fun b => cntN d b.2 nm.data.toList)).sum := by rw [← hF1, ← hnb]; show _ + (((TrN.binds t).take _).map _).sum = _; rw [List.take_length]
  have HF1 : Hid (F1 0 = 0 ∧ ∀ k (h : k < (TrN.binds t).length), F1 (k + 1) = F1 k + cntN d (TrN.binds t)[k].2 nm.data.toList ∧ F1 (k + 1) ≤ 3000000) := ⟨by rw [← hF1]; rfl, fun k h => ⟨by rw [← hF1]; show _ + _ = _ + _ + _; rw [take_sum _ _ k h]; omega, by rw [← hF1]; show _ + _ ≤ _; have := t1 (k + 1); omega⟩⟩
  obtain ⟨F2, hF2⟩ : ∃ F : Nat → Nat, (fun k => F1 nb + (((TrN.args t).take k).map (fun e => cntN d e nm.data.toList)).sum) = F := ⟨_, rfl⟩
  have e2 : F2 na = F1 nb + ((TrN.args t).map (fun e => cntN d e nm.data.toList)).sum := by rw [← hF2, ← hna]; show _ + (((TrN.args t).take _).map _).sum = _; rw [List.take_length]
  have HF2 : Hid (F2 0 = F1 nb ∧ ∀ k (h : k < (TrN.args t).length), F2 (k + 1) = F2 k + cntN d (TrN.args t)[k] nm.data.toList ∧ F2 (k + 1) ≤ 3000000) := ⟨by rw [← hF2]; rfl, fun k h => ⟨by rw [← hF2]; show _ + _ = _ + _ + _; rw [take_sum _ _ k h]; omega, by rw [← hF2]; show _ + _ ≤ _; have := t2 (k + 1); omega⟩⟩
  obtain ⟨F3, hF3⟩ : ∃ F : Nat → Nat, (fun k => F2 na + (((TrN.alts t).take k).map (fun a => if (dl a.1.vars).contains nm.data.toList then 0 else cntN d a.2 nm.data.toList)).sum) = F := ⟨_, rfl⟩
  have e3 : F3 nl = F2 na + ((TrN.alts t).map (fun a => if (dl a.1.vars).contains nm.data.toList then 0 else cntN d a.2 nm.data.toList)).sum := by rw [← hF3, ← hnl]; show _ + (((TrN.alts t).take _).map _).sum = _; rw [List.take_length]
  have HF3 : Hid (F3 0 = F2 na ∧ ∀ k (h : k < (TrN.alts t).length), F3 (k + 1) = F3 k + (if (dl (TrN.alts t)[k].1.vars).contains nm.data.toList then 0 else cntN d (TrN.alts t)[k].2 nm.data.toList) ∧ F3 (k + 1) ≤ 3000000) := ⟨by rw [← hF3]; rfl, fun k h => ⟨by rw [← hF3]; show _ + _ = _ + _ + _; rw [take_sum _ _ k h]; omega, by rw [← hF3]; show _ + _ ≤ _; have := t3 (k + 1); omega⟩⟩
  have HE : cntN (d + 1) t nm.data.toList = if (dl (TrN.params t)).contains nm.data.toList || (dl ((TrN.binds t).map Prod.fst)).contains nm.data.toList then 0 else F3 nl := by
    have h : hidM t nm.data.toList = ((dl (TrN.params t)).contains nm.data.toList || (dl ((TrN.binds t).map Prod.fst)).contains nm.data.toList) := by
      unfold hidM bndM dl
      rw [List.map_append]
      rw [Bool.eq_iff_iff]
      simp only [List.contains_iff_mem, Bool.or_eq_true, List.mem_append]
    have hh : cntIn t nm.data.toList = F3 nl := by
      unfold cntIn
      rw [HV0.out, e3, e2, e1]
      rfl
    rw [cntSucc, h, hh]
  rw [HE]
  generalize (dl ((TrN.binds t).map Prod.fst)).contains nm.data.toList = bb at HHs ⊢
  generalize (TrN.binds t).map Prod.fst = ns at HBd HHs
  generalize (dl (TrN.params t)).contains nm.data.toList = bp at HP ⊢
  have hkd1 : ¬ kd = 1 := hkd ▸ hk
  rw [hkd, hem] at *
  clear ha hB ht k3 k4 k5 k6 hM lenB lenA lenL hmem hsame kV bV hn3 hnb hna hnl hem hkd hnu ih hF1 hF2 hF3 HE HV0 hk lenP hT t1 t2 t3 e1 e2 e3
  skip
  go_enter Tryd.func28, Tryd.ntmps28
  go_upto_region 1 with fail
  (try rw [hV])
  (try rw [hab])
  clear hV hab hPB
  obtain ⟨q0, q1, q3, q4, q5, q6, ql⟩ := HC.out V HKV.out
  go_wp2_with (go_at_call 42; fail)
  clear q0 q1 q3 q4 q5 q6 ql
  refine (HP.out V (HPB.out _ HKV.out)).mono ?_
  rintro e y0 ⟨rfl, e0⟩
  subst e0
  cases bp with
  | true =>
    go_wp2
    go_ret
    exact ⟨rfl, HPB.out _ HKV.out⟩
  | false =>
    obtain ⟨q0, q1, q3, q4, q5, q6, ql⟩ := HC.out y0 HKV.out
    go_wp2_with (go_at_call 43; fail)
    clear q0 q1 q3 q4 q5 q6 ql
    refine (HBd.out y0 (HPB.out _ HKV.out)).mono ?_
    rintro e y1 ⟨o', c', rfl, htx, hb⟩
    have HS1 : Hid (PB y1) := HKb.out _ _ HKV.out hb
    have HHc : Hid (Calls Tryd.prog 42 #[.slice o' nb c', .string nm] y1 fun e w' => e = .returned (.bool bb) ∧ w' = y1) := HHs.out y1 o' c' htx
    clear htx hb HHs HBd HP HKV
    go_wp2_with (go_at_call 42; fail)
    refine HHc.out.mono ?_
    rintro e y2 ⟨rfl, e2⟩
    subst e2
    clear HHc
    cases bb with
    | true =>
      go_wp2
      go_ret
      exact ⟨rfl, HPB.out _ HS1⟩
    | false =>
      obtain ⟨q0, q1, q3, q4, q5, q6, ql⟩ := HC.out y2 HS1.out
      go_wp2
      clear q0 q1 q3 q4 q5 q6 ql
      have HKV := HS1
      clear HS1
      go_loopw [5, 6] (fun ov i wr => ∃ k : Nat, k ≤ nb ∧ ov = .int .i64 (F1 k : Nat) ∧ i = .int .i64 k ∧ Hid (PB wr)) (fun _ i _ => nb - (intOf i).toNat)
      case atStart => exact ⟨0, Nat.zero_le _, by rw [HF1.out.1]; rfl, rfl, HKV⟩
      case round =>
        obtain ⟨k, hk, rfl, rfl, hS⟩ := hrel
        clear HKV
        by_cases hkn : k < nb
        · have hkl : k < (TrN.binds t).length := by rw [HN.out.1]; exact hkn
          obtain ⟨g, off, rfl, hg, hX⟩ := HBn.out k hkl
          obtain ⟨q0, q1, q3, q4, q5, q6, ql⟩ := HC.out wr hS.out
          obtain ⟨⟨k0, k1, k2, p3, l3, m3, p4, l4, m4, p5, l5, m5, p6, l6, m6, z0, z1, z2, z3, z4, z5, z6, zv⟩, hcall⟩ := hX wr (HPB.out _ hS.out)
          have HCl : Hid (Calls Tryd.prog 28 #[.agg #[.int .i64 k0, .string k1, .int .i64 k2, .slice p3 l3 m3, .slice p4 l4 m4, .slice p5 l5 m5, .slice p6 l6 m6], .string nm] wr fun e w' => e = .returned (.int .i64 (cntN d (TrN.binds t)[k].2 nm.data.toList : Nat)) ∧ Below wr.heap.size wr w') := hcall _ zv
          have hgw := HL.out g hg wr (HPB.out _ hS.out)
          have HF : Hid (F1 (k + 1) = F1 k + cntN d (TrN.binds t)[k].2 nm.data.toList ∧ F1 (k + 1) ≤ 3000000) := HF1.out.2 k hkl
          generalize cntN d (TrN.binds t)[k].2 nm.data.toList = oc at HCl HF
          clear hX hcall zv hkl hg HBn HAr HAl HF1 HF2 HF3
          go_wp2_with (go_at_call 28; fail)
          refine HCl.out.mono ?_
          rintro e y1 ⟨rfl, hb⟩
          have hS1 : Hid (PB y1) := HKb.out _ _ hS.out hb
          clear hb hS HCl q0 q1 q3 q4 q5 q6 ql z0 z1 z2 z3 z4 z5 z6 hgw
          have hlt := HF.out.2
          rw [HF.out.1] at hlt
          go_wp2
          go_roundw
          case rel => exact ⟨k + 1, hkn, by rw [HF.out.1]; go_num, by go_num, hS1⟩
          case measure => simp [intOf]; omega
        · have hke : k = nb := by omega
          subst hke
          clear HBn HF1
          obtain ⟨q0, q1, q3, q4, q5, q6, ql⟩ := HC.out wr hS.out
          go_wp2
          clear q0 q1 q3 q4 q5 q6 ql
          go_loopw [5, 7] (fun ov i wr => ∃ k : Nat, k ≤ na ∧ ov = .int .i64 (F2 k : Nat) ∧ i = .int .i64 k ∧ Hid (PB wr)) (fun _ i _ => na - (intOf i).toNat)
          case atStart => exact ⟨0, Nat.zero_le _, by rw [HF2.out.1], rfl, hS⟩
          case round =>
            clear hS hk hkn
            obtain ⟨j, hj, rfl, rfl, hS⟩ := hrel
            by_cases hkn : j < na
            · have hkl : j < (TrN.args t).length := by rw [HN.out.2.1]; exact hkn
              obtain ⟨g, off, rfl, hg, hX⟩ := HAr.out j hkl
              obtain ⟨q0, q1, q3, q4, q5, q6, ql⟩ := HC.out wr hS.out
              obtain ⟨⟨k0, k1, k2, p3, l3, m3, p4, l4, m4, p5, l5, m5, p6, l6, m6, z0, z1, z2, z3, z4, z5, z6, zv⟩, hcall⟩ := hX wr (HPB.out _ hS.out)
              have HCl : Hid (Calls Tryd.prog 28 #[.agg #[.int .i64 k0, .string k1, .int .i64 k2, .slice p3 l3 m3, .slice p4 l4 m4, .slice p5 l5 m5, .slice p6 l6 m6], .string nm] wr fun e w' => e = .returned (.int .i64 (cntN d (TrN.args t)[j] nm.data.toList : Nat)) ∧ Below wr.heap.size wr w') := hcall _ zv
              have hgw := HL.out g hg wr (HPB.out _ hS.out)
              have HF : Hid (F2 (j + 1) = F2 j + cntN d (TrN.args t)[j] nm.data.toList ∧ F2 (j + 1) ≤ 3000000) := HF2.out.2 j hkl
              generalize cntN d (TrN.args t)[j] nm.data.toList = oc at HCl HF
              clear hX hcall zv hkl hg HAr HAl HF2 HF3
              go_wp2_with (go_at_call 28; fail)
              refine HCl.out.mono ?_
              rintro e y1 ⟨rfl, hb⟩
              have hS1 : Hid (PB y1) := HKb.out _ _ hS.out hb
              clear hb hS HCl q0 q1 q3 q4 q5 q6 ql z0 z1 z2 z3 z4 z5 z6 hgw
              have hlt := HF.out.2
              rw [HF.out.1] at hlt
              go_wp2
              go_roundw
              case rel => exact ⟨j + 1, hkn, by rw [HF.out.1]; go_num, by go_num, hS1⟩
              case measure => simp [intOf]; omega
            · have hke : j = na := by omega
              subst hke
              clear HAr HF2
              obtain ⟨q0, q1, q3, q4, q5, q6, ql⟩ := HC.out wr hS.out
              go_wp2
              clear q0 q1 q3 q4 q5 q6 ql
              go_loopw [5, 8] (fun ov i wr => ∃ k : Nat, k ≤ nl ∧ ov = .int .i64 (F3 k : Nat) ∧ i = .int .i64 k ∧ Hid (PB wr)) (fun _ i _ => nl - (intOf i).toNat)
              case atStart => exact ⟨0, Nat.zero_le _, by rw [HF3.out.1], rfl, hS⟩
              case round =>
                clear hS hj hkn
                obtain ⟨p, hp, rfl, rfl, hS⟩ := hrel
                by_cases hkn : p < nl
                · have hkl : p < (TrN.alts t).length := by rw [HN.out.2.2]; exact hkn
                  obtain ⟨g, off, rfl, hg, hX⟩ := HAl.out p hkl
                  obtain ⟨q0, q1, q3, q4, q5, q6, ql⟩ := HC.out wr hS.out
                  obtain ⟨⟨ov, cv, qv, hhas⟩, ⟨k0, k1, k2, p3, l3, m3, p4, l4, m4, p5, l5, m5, p6, l6, m6, z0, z1, z2, z3, z4, z5, z6, zv⟩, hcall⟩ := hX wr (HPB.out _ hS.out)
                  obtain ⟨vn, hvn⟩ : ∃ n, (TrN.alts t)[p].1.vars.length = n := ⟨_, rfl⟩
                  rw [hvn] at qv hhas
                  have HH : Hid (Calls Tryd.prog 42 #[.slice ov vn cv, .string nm] wr fun e w' => e = .returned (.bool ((dl (TrN.alts t)[p].1.vars).contains nm.data.toList)) ∧ w' = wr) := hhas
                  have HCl : Hid (Calls Tryd.prog 28 #[.agg #[.int .i64 k0, .string k1, .int .i64 k2, .slice p3 l3 m3, .slice p4 l4 m4, .slice p5 l5 m5, .slice p6 l6 m6], .string nm] wr fun e w' => e = .returned (.int .i64 (cntN d (TrN.alts t)[p].2 nm.data.toList : Nat)) ∧ Below wr.heap.size wr w') := hcall _ zv
                  have hgw := HL.out g hg wr (HPB.out _ hS.out)
                  have HF : Hid (F3 (p + 1) = F3 p + (if (dl (TrN.alts t)[p].1.vars).contains nm.data.toList then 0 else cntN d (TrN.alts t)[p].2 nm.data.toList) ∧ F3 (p + 1) ≤ 3000000) := HF3.out.2 p hkl
                  generalize cntN d (TrN.alts t)[p].2 nm.data.toList = oc at HCl HF
                  generalize (dl (TrN.alts t)[p].1.vars).contains nm.data.toList = bh at HH HF
                  clear hX hcall hhas zv hvn hkl hg HAl HF3
                  go_wp2_with (go_at_call 42; fail)
                  refine HH.out.mono ?_
                  rintro e y0 ⟨rfl, e0⟩
                  subst e0
                  cases bh with
                  | true =>
                    clear HCl HH
                    go_wp2
                    go_roundw
                    case rel => exact ⟨p + 1, hkn, by rw [HF.out.1]; rfl, by go_num, hS⟩
                    case measure => simp [intOf]; omega
                  | false =>
                    replace HF : Hid (F3 (p + 1) = F3 p + oc ∧ F3 (p + 1) ≤ 3000000) := HF.out
                    go_wp2_with (go_at_call 28; fail)
                    refine HCl.out.mono ?_
                    rintro e y1 ⟨rfl, hb⟩
                    have hS1 : Hid (PB y1) := HKb.out _ _ hS.out hb
                    clear hb hS HCl HH q0 q1 q3 q4 q5 q6 ql z0 z1 z2 z3 z4 z5 z6 hgw qv
                    have hlt := HF.out.2
                    rw [HF.out.1] at hlt
                    go_wp2
                    go_roundw
                    case rel => exact ⟨p + 1, hkn, by rw [HF.out.1]; go_num, by go_num, hS1⟩
                    case measure => simp [intOf]; omega
                · have hke : p = nl := by omega
                  subst hke
                  clear HAl HF3
                  obtain ⟨q0, q1, q3, q4, q5, q6, ql⟩ := HC.out wr hS.out
                  go_wp2
                  clear q0 q1 q3 q4 q5 q6 ql
                  go_ret
                  exact ⟨rfl, HPB.out _ hS.out⟩
set_option maxHeartbeats 16000000 in
set_option maxRecDepth 100000 in
theorem rcountYes_c (d : Nat) (ih : RCt d) (t : Tr (d + 1)) (va : Value) (B : Nat) (nm : ByteArray) (w : World) (ha : ExVal w B d t va) (hB : B ≤ w.heap.size) (ht : wM (d + 1) t ≤ 3000000) (hk : TrN.kind t = 1) (hn : TrN.name t = nm) :
    Calls Tryd.prog 28 #[va, .string nm] w fun e w' => e = .returned (.int .i64 (cntN (d + 1) t nm.data.toList : Nat)) ∧ Below w.heap.size w w' := by
  obtain ⟨o3, c3, o4, c4, o5, c5, o6, c6, ea, k3, k4, k5, k6⟩ := id ha
  subst ea
  have hM := wM_succ t
  have lenB : (TrN.binds t).length ≤ (bndM t).length := by simp [bndM]
  have lenA : (TrN.args t).length ≤ ((TrN.args t).map (wM d)).sum := len_le_sum _ _ (fun x _ => wM_pos d x)
  have lenL : (TrN.alts t).length ≤ ((TrN.alts t).map (fun a => 4 * a.1.vars.length + wM d a.2)).sum := len_le_sum _ _ (fun x _ => by have := wM_pos d x.2; omega)
  have hmem : ∀ {α : Type} (f : α → Nat) (l : List α) (k : Nat) (h : k < l.length), f l[k] ≤ (l.map f).sum := fun f l k h => by
    have h1 := take_sum f l k h
    have h2 := take_le f l (k + 1)
    omega
  obtain ⟨n3, hn3⟩ : ∃ n, (TrN.params t).length = n := ⟨_, rfl⟩
  obtain ⟨nb, hnb⟩ : ∃ n, (TrN.binds t).length = n := ⟨_, rfl⟩
  obtain ⟨na, hna⟩ : ∃ n, (TrN.args t).length = n := ⟨_, rfl⟩
  obtain ⟨nl, hnl⟩ : ∃ n, (TrN.alts t).length = n := ⟨_, rfl⟩
  obtain ⟨em, hem⟩ : ∃ n, TrN.name t = n := ⟨_, rfl⟩
  obtain ⟨kd, hkd⟩ : ∃ n, TrN.kind t = n := ⟨_, rfl⟩
  obtain ⟨nu, hnu⟩ : ∃ n, TrN.num t = n := ⟨_, rfl⟩
  rw [hn3, hnb, hna, hnl, hem, hkd, hnu]
  obtain ⟨V, hV⟩ : ∃ V, w.alloc (.cells #[.int .i64 kd, .string em, .int .i64 nu, .slice o3 n3 c3, .slice o4 nb c4, .slice o5 na c5, .slice o6 nl c6] 29) = V := ⟨_, rfl⟩
  have kV : Blk V w.heap.size #[.int .i64 kd, .string em, .int .i64 nu, .slice o3 n3 c3, .slice o4 nb c4, .slice o5 na c5, .slice o6 nl c6] 29 := by rw [← hV]; exact Blk.new w _ _
  have bV : Below w.heap.size w V := by rw [← hV]; exact below1 w _
  obtain ⟨ab, hab⟩ : ∃ ab, w.heap.size = ab := ⟨_, rfl⟩
  have hsame : ∀ W, Below w.heap.size w W → ∀ g off, g < B → W.cell? ⟨g, off, none⟩ = w.cell? ⟨g, off, none⟩ := fun W hW g off hg => hW.cell (p := ⟨g, off, none⟩) (by show g < w.heap.size; omega)
  obtain ⟨PB, hPB⟩ : ∃ P : World → Prop, (fun W => Blk W ab #[.int .i64 kd, .string em, .int .i64 nu, .slice o3 n3 c3, .slice o4 nb c4, .slice o5 na c5, .slice o6 nl c6] 29 ∧ Below w.heap.size w W) = P := ⟨_, rfl⟩
  have HC : Hid (∀ W, PB W → W.cell? ⟨ab, 0, none⟩ = some (.int .i64 kd) ∧ W.cell? ⟨ab, 1, none⟩ = some (.string em) ∧ W.cell? ⟨ab, 3, none⟩ = some (.slice o3 n3 c3) ∧ W.cell? ⟨ab, 4, none⟩ = some (.slice o4 nb c4) ∧ W.cell? ⟨ab, 5, none⟩ = some (.slice o5 na c5) ∧ W.cell? ⟨ab, 6, none⟩ = some (.slice o6 nl c6) ∧ ab < W.heap.size) := by
    intro W hW
    rw [← hPB] at hW
    obtain ⟨hk, -⟩ := hW
    exact ⟨hk.cell 0 _ rfl, hk.cell 1 _ rfl, hk.cell 3 _ rfl, hk.cell 4 _ rfl, hk.cell 5 _ rfl, hk.cell 6 _ rfl, hk.lt⟩
  have HPB : Hid (∀ W, PB W → Below w.heap.size w W) := fun W hW => by rw [← hPB] at hW; exact hW.2
  have lenP : (TrN.params t).length ≤ (bndM t).length := by simp [bndM]
  have HP : Hid (∀ W, Below w.heap.size w W → Calls Tryd.prog 42 #[.slice o3 n3 c3, .string nm] W fun e w' => e = .returned (.bool ((dl (TrN.params t)).contains nm.data.toList)) ∧ w' = W) := fun W hW => by
    rw [← hn3]
    exact rhas_c _ o3 c3 B nm W (k3.same (hsame W hW)) (by have := hW.size; omega) (by omega)
  have HBd : Hid (∀ W, Below w.heap.size w W → Calls Tryd.prog 43 #[.slice o4 nb c4] W fun e w' => ∃ o' c', e = .returned (.slice o' nb c') ∧ TxIn w' w'.heap.size o' ((TrN.binds t).map Prod.fst) ∧ Below W.heap.size W w') := fun W hW => by
    rw [← hnb]
    exact rbindNames_c d _ o4 c4 B W (k4.mono (fun x g off hg h => ⟨(hsame W hW _ _ hg).trans h.1, ExAt.same (hsame W hW) d _ _ _ h.2⟩)) (by have := hW.size; omega) (by omega)
  have HHs : Hid (∀ W o' c', TxIn W W.heap.size o' ((TrN.binds t).map Prod.fst) → Calls Tryd.prog 42 #[.slice o' nb c', .string nm] W fun e w' => e = .returned (.bool ((dl ((TrN.binds t).map Prod.fst)).contains nm.data.toList)) ∧ w' = W) := fun W o' c' h => by
    have := rhas_c _ o' c' W.heap.size nm W h (Nat.le_refl _) (by rw [List.length_map]; omega)
    rw [List.length_map, hnb] at this
    exact this
  have HBn : Hid (∀ k (hk : k < (TrN.binds t).length), ∃ g off, o4 = some ⟨g, off, none⟩ ∧ g < w.heap.size ∧ ∀ W, Below w.heap.size w W → Ld7 W B d (TrN.binds t)[k].2 g (off + k * 8 + 1) ∧ ∀ v, ExVd W B d (TrN.binds t)[k].2 v → Calls Tryd.prog 28 #[v, .string nm] W fun e w' => e = .returned (.int .i64 (cntN d (TrN.binds t)[k].2 nm.data.toList : Nat)) ∧ Below W.heap.size W w') := by
    intro k hk
    rcases k4 with h9 | ⟨g, off, e, hg, h9⟩
    · rw [h9] at hk; cases hk
    · refine ⟨g, off, e, by omega, fun W hW => ⟨ld7 d _ _ _ (ExAt.same (hsame W hW) d _ _ _ (h9 k hk).2), fun v hv => ih _ v B nm W hv (by have := hW.size; omega) (by have := hmem (fun b : ByteArray × Tr d => wM d b.2) (TrN.binds t) k hk; omega)⟩⟩
  have HAr : Hid (∀ k (hk : k < (TrN.args t).length), ∃ g off, o5 = some ⟨g, off, none⟩ ∧ g < w.heap.size ∧ ∀ W, Below w.heap.size w W → Ld7 W B d (TrN.args t)[k] g (off + k * 7) ∧ ∀ v, ExVd W B d (TrN.args t)[k] v → Calls Tryd.prog 28 #[v, .string nm] W fun e w' => e = .returned (.int .i64 (cntN d (TrN.args t)[k] nm.data.toList : Nat)) ∧ Below W.heap.size W w') := by
    intro k hk
    rcases k5 with h9 | ⟨g, off, e, hg, h9⟩
    · rw [h9] at hk; cases hk
    · refine ⟨g, off, e, by omega, fun W hW => ⟨ld7 d _ _ _ (ExAt.same (hsame W hW) d _ _ _ (h9 k hk)), fun v hv => ih _ v B nm W hv (by have := hW.size; omega) (by have := hmem (wM d) (TrN.args t) k hk; omega)⟩⟩
  have HAl : Hid (∀ k (hk : k < (TrN.alts t).length), ∃ g off, o6 = some ⟨g, off, none⟩ ∧ g < w.heap.size ∧ ∀ W, Below w.heap.size w W → (∃ ov cv, W.cell? ⟨g, off + k * 11 + 3, none⟩ = some (.slice ov (TrN.alts t)[k].1.vars.length cv) ∧ Calls Tryd.prog 42 #[.slice ov (TrN.alts t)[k].1.vars.length cv, .string nm] W fun e w' => e = .returned (.bool ((dl (TrN.alts t)[k].1.vars).contains nm.data.toList)) ∧ w' = W) ∧ Ld7 W B d (TrN.alts t)[k].2 g (off + k * 11 + 4) ∧ ∀ v, ExVd W B d (TrN.alts t)[k].2 v → Calls Tryd.prog 28 #[v, .string nm] W fun e w' => e = .returned (.int .i64 (cntN d (TrN.alts t)[k].2 nm.data.toList : Nat)) ∧ Below W.heap.size W w') := by
    intro k hk
    rcases k6 with h9 | ⟨g, off, e, hg, h9⟩
    · rw [h9] at hk; cases hk
    · have hm := hmem (fun a : AltH × Tr d => 4 * a.1.vars.length + wM d a.2) (TrN.alts t) k hk
      obtain ⟨-, -, -, ⟨ov, cv, q3, q4⟩, q5⟩ := h9 k hk
      refine ⟨g, off, e, by omega, fun W hW => ⟨⟨ov, cv, (hsame W hW _ _ hg).trans q3, rhas_c _ ov cv B nm W (q4.same (hsame W hW)) (by have := hW.size; omega) (by omega)⟩, ld7 d _ _ _ (ExAt.same (hsame W hW) d _ _ _ q5), fun v hv => ih _ v B nm W hv (by have := hW.size; omega) (by omega)⟩⟩
  have HN : Hid ((TrN.binds t).length = nb ∧ (TrN.args t).length = na ∧ (TrN.alts t).length = nl) := ⟨hnb, hna, hnl⟩
  have HV0 : Hid (isV t nm.data.toList = true) := by
    have h : isV t nm.data.toList = true := by
      unfold isV
      rw [hkd, hem]
      simp [show kd = 1 from hkd ▸ hk, show em = nm from hem ▸ hn]
    exact h
  have HL : Hid (∀ g', g' < w.heap.size → ∀ W, Below w.heap.size w W → g' < W.heap.size) := fun g' h1 W hW => Nat.lt_of_lt_of_le h1 hW.size
  have hnbI : (nb : Int) ≤ 3000000 := by omega
  have hnaI : (na : Int) ≤ 3000000 := by omega
  have hnlI : (nl : Int) ≤ 3000000 := by omega
  have HKV : Hid (PB V) := by
    have h : PB V := by rw [← hPB]; exact ⟨by rw [← hab]; exact kV, bV⟩
    exact h
  have HKb : Hid (∀ W W', PB W → Below W.heap.size W W' → PB W') := fun W W' h hb => by
    rw [← hPB] at h ⊢
    exact ⟨h.1.below hb, h.2.trans (hb.mono h.2.size)⟩
  have hT : 1 + ((TrN.binds t).map (fun b => cntN d b.2 nm.data.toList)).sum + ((TrN.args t).map (fun e => cntN d e nm.data.toList)).sum + ((TrN.alts t).map (fun a => if (dl a.1.vars).contains nm.data.toList then 0 else cntN d a.2 nm.data.toList)).sum ≤ 3000000 := by
    have h := cntIn_four (cntFour d) t nm.data.toList
    unfold cntIn at h
    rw [HV0.out] at h
    have e : (if true = true then 1 else 0) = (1 : Nat) := rfl
    rw [e] at h
    omega
  have t1 := take_le (fun b : ByteArray × Tr d => cntN d b.2 nm.data.toList) (TrN.binds t)
  have t2 := take_le (fun e : Tr d => cntN d e nm.data.toList) (TrN.args t)
  have t3 := take_le (fun a : AltH × Tr d => if (dl a.1.vars).contains nm.data.toList then 0 else cntN d a.2 nm.data.toList) (TrN.alts t)
  obtain ⟨F1, hF1⟩ : ∃ F : Nat → Nat, (fun k => 1 + (((TrN.binds t).take k).map (fun b => cntN d b.2 nm.data.toList)).sum) = F := ⟨_, rfl⟩
  have e1 : F1 nb = 1 + ((TrN.binds t).map (fun b => cntN d b.2 nm.data.toList)).sum := by rw [← hF1, ← hnb]; show _ + (((TrN.binds t).take _).map _).sum = _; rw [List.take_length]
  have HF1 : Hid (F1 0 = 1 ∧ ∀ k (h : k < (TrN.binds t).length), F1 (k + 1) = F1 k + cntN d (TrN.binds t)[k].2 nm.data.toList ∧ F1 (k + 1) ≤ 3000000) := ⟨by rw [← hF1]; rfl, fun k h => ⟨by rw [← hF1]; show _ + _ = _ + _ + _; rw [take_sum _ _ k h]; omega, by rw [← hF1]; show _ + _ ≤ _; have := t1 (k + 1); omega⟩⟩
  obtain ⟨F2, hF2⟩ : ∃ F : Nat → Nat, (fun k => F1 nb + (((TrN.args t).take k).map (fun e => cntN d e nm.data.toList)).sum) = F := ⟨_, rfl⟩
  have e2 : F2 na = F1 nb + ((TrN.args t).map (fun e => cntN d e nm.data.toList)).sum := by rw [← hF2, ← hna]; show _ + (((TrN.args t).take _).map _).sum = _; rw [List.take_length]
  have HF2 : Hid (F2 0 = F1 nb ∧ ∀ k (h : k < (TrN.args t).length), F2 (k + 1) = F2 k + cntN d (TrN.args t)[k] nm.data.toList ∧ F2 (k + 1) ≤ 3000000) := ⟨by rw [← hF2]; rfl, fun k h => ⟨by rw [← hF2]; show _ + _ = _ + _ + _; rw [take_sum _ _ k h]; omega, by rw [← hF2]; show _ + _ ≤ _; have := t2 (k + 1); omega⟩⟩
  obtain ⟨F3, hF3⟩ : ∃ F : Nat → Nat, (fun k => F2 na + (((TrN.alts t).take k).map (fun a => if (dl a.1.vars).contains nm.data.toList then 0 else cntN d a.2 nm.data.toList)).sum) = F := ⟨_, rfl⟩
  have e3 : F3 nl = F2 na + ((TrN.alts t).map (fun a => if (dl a.1.vars).contains nm.data.toList then 0 else cntN d a.2 nm.data.toList)).sum := by rw [← hF3, ← hnl]; show _ + (((TrN.alts t).take _).map _).sum = _; rw [List.take_length]
  have HF3 : Hid (F3 0 = F2 na ∧ ∀ k (h : k < (TrN.alts t).length), F3 (k + 1) = F3 k + (if (dl (TrN.alts t)[k].1.vars).contains nm.data.toList then 0 else cntN d (TrN.alts t)[k].2 nm.data.toList) ∧ F3 (k + 1) ≤ 3000000) := ⟨by rw [← hF3]; rfl, fun k h => ⟨by rw [← hF3]; show _ + _ = _ + _ + _; rw [take_sum _ _ k h]; omega, by rw [← hF3]; show _ + _ ≤ _; have := t3 (k + 1); omega⟩⟩
  have HE : cntN (d + 1) t nm.data.toList = if (dl (TrN.params t)).contains nm.data.toList || (dl ((TrN.binds t).map Prod.fst)).contains nm.data.toList then 0 else F3 nl := by
    have h : hidM t nm.data.toList = ((dl (TrN.params t)).contains nm.data.toList || (dl ((TrN.binds t).map Prod.fst)).contains nm.data.toList) := by
      unfold hidM bndM dl
      rw [List.map_append]
      rw [Bool.eq_iff_iff]
      simp only [List.contains_iff_mem, Bool.or_eq_true, List.mem_append]
    have hh : cntIn t nm.data.toList = F3 nl := by
      unfold cntIn
      rw [HV0.out, e3, e2, e1]
      rfl
    rw [cntSucc, h, hh]
  rw [HE]
  generalize (dl ((TrN.binds t).map Prod.fst)).contains nm.data.toList = bb at HHs ⊢
  generalize (TrN.binds t).map Prod.fst = ns at HBd HHs
  generalize (dl (TrN.params t)).contains nm.data.toList = bp at HP ⊢
  have hkd1 : kd = 1 := hkd ▸ hk
  have hem1 : nm = em := (hem ▸ hn : em = nm).symm
  rw [hkd, hem] at *
  clear ha hB ht k3 k4 k5 k6 hM lenB lenA lenL hmem hsame kV bV hn3 hnb hna hnl hem hkd hnu ih hF1 hF2 hF3 HE HV0 hk hn lenP hT t1 t2 t3 e1 e2 e3
  subst hkd1
  subst hem1
  go_enter Tryd.func28, Tryd.ntmps28
  go_upto_region 1 with fail
  (try rw [hV])
  (try rw [hab])
  clear hV hab hPB
  obtain ⟨q0, q1, q3, q4, q5, q6, ql⟩ := HC.out V HKV.out
  go_wp2_with (go_at_call 42; fail)
  clear q0 q1 q3 q4 q5 q6 ql
  refine (HP.out V (HPB.out _ HKV.out)).mono ?_
  rintro e y0 ⟨rfl, e0⟩
  subst e0
  cases bp with
  | true =>
    go_wp2
    go_ret
    exact ⟨rfl, HPB.out _ HKV.out⟩
  | false =>
    obtain ⟨q0, q1, q3, q4, q5, q6, ql⟩ := HC.out y0 HKV.out
    go_wp2_with (go_at_call 43; fail)
    clear q0 q1 q3 q4 q5 q6 ql
    refine (HBd.out y0 (HPB.out _ HKV.out)).mono ?_
    rintro e y1 ⟨o', c', rfl, htx, hb⟩
    have HS1 : Hid (PB y1) := HKb.out _ _ HKV.out hb
    have HHc : Hid (Calls Tryd.prog 42 #[.slice o' nb c', .string nm] y1 fun e w' => e = .returned (.bool bb) ∧ w' = y1) := HHs.out y1 o' c' htx
    clear htx hb HHs HBd HP HKV
    go_wp2_with (go_at_call 42; fail)
    refine HHc.out.mono ?_
    rintro e y2 ⟨rfl, e2⟩
    subst e2
    clear HHc
    cases bb with
    | true =>
      go_wp2
      go_ret
      exact ⟨rfl, HPB.out _ HS1⟩
    | false =>
      obtain ⟨q0, q1, q3, q4, q5, q6, ql⟩ := HC.out y2 HS1.out
      go_wp2
      clear q0 q1 q3 q4 q5 q6 ql
      have HKV := HS1
      clear HS1
      go_loopw [5, 6] (fun ov i wr => ∃ k : Nat, k ≤ nb ∧ ov = .int .i64 (F1 k : Nat) ∧ i = .int .i64 k ∧ Hid (PB wr)) (fun _ i _ => nb - (intOf i).toNat)
      case atStart => exact ⟨0, Nat.zero_le _, by rw [HF1.out.1]; rfl, rfl, HKV⟩
      case round =>
        obtain ⟨k, hk, rfl, rfl, hS⟩ := hrel
        clear HKV
        by_cases hkn : k < nb
        · have hkl : k < (TrN.binds t).length := by rw [HN.out.1]; exact hkn
          obtain ⟨g, off, rfl, hg, hX⟩ := HBn.out k hkl
          obtain ⟨q0, q1, q3, q4, q5, q6, ql⟩ := HC.out wr hS.out
          obtain ⟨⟨k0, k1, k2, p3, l3, m3, p4, l4, m4, p5, l5, m5, p6, l6, m6, z0, z1, z2, z3, z4, z5, z6, zv⟩, hcall⟩ := hX wr (HPB.out _ hS.out)
          have HCl : Hid (Calls Tryd.prog 28 #[.agg #[.int .i64 k0, .string k1, .int .i64 k2, .slice p3 l3 m3, .slice p4 l4 m4, .slice p5 l5 m5, .slice p6 l6 m6], .string nm] wr fun e w' => e = .returned (.int .i64 (cntN d (TrN.binds t)[k].2 nm.data.toList : Nat)) ∧ Below wr.heap.size wr w') := hcall _ zv
          have hgw := HL.out g hg wr (HPB.out _ hS.out)
          have HF : Hid (F1 (k + 1) = F1 k + cntN d (TrN.binds t)[k].2 nm.data.toList ∧ F1 (k + 1) ≤ 3000000) := HF1.out.2 k hkl
          generalize cntN d (TrN.binds t)[k].2 nm.data.toList = oc at HCl HF
          clear hX hcall zv hkl hg HBn HAr HAl HF1 HF2 HF3
          go_wp2_with (go_at_call 28; fail)
          refine HCl.out.mono ?_
          rintro e y1 ⟨rfl, hb⟩
          have hS1 : Hid (PB y1) := HKb.out _ _ hS.out hb
          clear hb hS HCl q0 q1 q3 q4 q5 q6 ql z0 z1 z2 z3 z4 z5 z6 hgw
          have hlt := HF.out.2
          rw [HF.out.1] at hlt
          go_wp2
          go_roundw
          case rel => exact ⟨k + 1, hkn, by rw [HF.out.1]; go_num, by go_num, hS1⟩
          case measure => simp [intOf]; omega
        · have hke : k = nb := by omega
          subst hke
          clear HBn HF1
          obtain ⟨q0, q1, q3, q4, q5, q6, ql⟩ := HC.out wr hS.out
          go_wp2
          clear q0 q1 q3 q4 q5 q6 ql
          go_loopw [5, 7] (fun ov i wr => ∃ k : Nat, k ≤ na ∧ ov = .int .i64 (F2 k : Nat) ∧ i = .int .i64 k ∧ Hid (PB wr)) (fun _ i _ => na - (intOf i).toNat)
          case atStart => exact ⟨0, Nat.zero_le _, by rw [HF2.out.1], rfl, hS⟩
          case round =>
            clear hS hk hkn
            obtain ⟨j, hj, rfl, rfl, hS⟩ := hrel
            by_cases hkn : j < na
            · have hkl : j < (TrN.args t).length := by rw [HN.out.2.1]; exact hkn
              obtain ⟨g, off, rfl, hg, hX⟩ := HAr.out j hkl
              obtain ⟨q0, q1, q3, q4, q5, q6, ql⟩ := HC.out wr hS.out
              obtain ⟨⟨k0, k1, k2, p3, l3, m3, p4, l4, m4, p5, l5, m5, p6, l6, m6, z0, z1, z2, z3, z4, z5, z6, zv⟩, hcall⟩ := hX wr (HPB.out _ hS.out)
              have HCl : Hid (Calls Tryd.prog 28 #[.agg #[.int .i64 k0, .string k1, .int .i64 k2, .slice p3 l3 m3, .slice p4 l4 m4, .slice p5 l5 m5, .slice p6 l6 m6], .string nm] wr fun e w' => e = .returned (.int .i64 (cntN d (TrN.args t)[j] nm.data.toList : Nat)) ∧ Below wr.heap.size wr w') := hcall _ zv
              have hgw := HL.out g hg wr (HPB.out _ hS.out)
              have HF : Hid (F2 (j + 1) = F2 j + cntN d (TrN.args t)[j] nm.data.toList ∧ F2 (j + 1) ≤ 3000000) := HF2.out.2 j hkl
              generalize cntN d (TrN.args t)[j] nm.data.toList = oc at HCl HF
              clear hX hcall zv hkl hg HAr HAl HF2 HF3
              go_wp2_with (go_at_call 28; fail)
              refine HCl.out.mono ?_
              rintro e y1 ⟨rfl, hb⟩
              have hS1 : Hid (PB y1) := HKb.out _ _ hS.out hb
              clear hb hS HCl q0 q1 q3 q4 q5 q6 ql z0 z1 z2 z3 z4 z5 z6 hgw
              have hlt := HF.out.2
              rw [HF.out.1] at hlt
              go_wp2
              go_roundw
              case rel => exact ⟨j + 1, hkn, by rw [HF.out.1]; go_num, by go_num, hS1⟩
              case measure => simp [intOf]; omega
            · have hke : j = na := by omega
              subst hke
              clear HAr HF2
              obtain ⟨q0, q1, q3, q4, q5, q6, ql⟩ := HC.out wr hS.out
              go_wp2
              clear q0 q1 q3 q4 q5 q6 ql
              go_loopw [5, 8] (fun ov i wr => ∃ k : Nat, k ≤ nl ∧ ov = .int .i64 (F3 k : Nat) ∧ i = .int .i64 k ∧ Hid (PB wr)) (fun _ i _ => nl - (intOf i).toNat)
              case atStart => exact ⟨0, Nat.zero_le _, by rw [HF3.out.1], rfl, hS⟩
              case round =>
                clear hS hj hkn
                obtain ⟨p, hp, rfl, rfl, hS⟩ := hrel
                by_cases hkn : p < nl
                · have hkl : p < (TrN.alts t).length := by rw [HN.out.2.2]; exact hkn
                  obtain ⟨g, off, rfl, hg, hX⟩ := HAl.out p hkl
                  obtain ⟨q0, q1, q3, q4, q5, q6, ql⟩ := HC.out wr hS.out
                  obtain ⟨⟨ov, cv, qv, hhas⟩, ⟨k0, k1, k2, p3, l3, m3, p4, l4, m4, p5, l5, m5, p6, l6, m6, z0, z1, z2, z3, z4, z5, z6, zv⟩, hcall⟩ := hX wr (HPB.out _ hS.out)
                  obtain ⟨vn, hvn⟩ : ∃ n, (TrN.alts t)[p].1.vars.length = n := ⟨_, rfl⟩
                  rw [hvn] at qv hhas
                  have HH : Hid (Calls Tryd.prog 42 #[.slice ov vn cv, .string nm] wr fun e w' => e = .returned (.bool ((dl (TrN.alts t)[p].1.vars).contains nm.data.toList)) ∧ w' = wr) := hhas
                  have HCl : Hid (Calls Tryd.prog 28 #[.agg #[.int .i64 k0, .string k1, .int .i64 k2, .slice p3 l3 m3, .slice p4 l4 m4, .slice p5 l5 m5, .slice p6 l6 m6], .string nm] wr fun e w' => e = .returned (.int .i64 (cntN d (TrN.alts t)[p].2 nm.data.toList : Nat)) ∧ Below wr.heap.size wr w') := hcall _ zv
                  have hgw := HL.out g hg wr (HPB.out _ hS.out)
                  have HF : Hid (F3 (p + 1) = F3 p + (if (dl (TrN.alts t)[p].1.vars).contains nm.data.toList then 0 else cntN d (TrN.alts t)[p].2 nm.data.toList) ∧ F3 (p + 1) ≤ 3000000) := HF3.out.2 p hkl
                  generalize cntN d (TrN.alts t)[p].2 nm.data.toList = oc at HCl HF
                  generalize (dl (TrN.alts t)[p].1.vars).contains nm.data.toList = bh at HH HF
                  clear hX hcall hhas zv hvn hkl hg HAl HF3
                  go_wp2_with (go_at_call 42; fail)
                  refine HH.out.mono ?_
                  rintro e y0 ⟨rfl, e0⟩
                  subst e0
                  cases bh with
                  | true =>
                    clear HCl HH
                    go_wp2
                    go_roundw
                    case rel => exact ⟨p + 1, hkn, by rw [HF.out.1]; rfl, by go_num, hS⟩
                    case measure => simp [intOf]; omega
                  | false =>
                    replace HF : Hid (F3 (p + 1) = F3 p + oc ∧ F3 (p + 1) ≤ 3000000) := HF.out
                    go_wp2_with (go_at_call 28; fail)
                    refine HCl.out.mono ?_
                    rintro e y1 ⟨rfl, hb⟩
                    have hS1 : Hid (PB y1) := HKb.out _ _ hS.out hb
                    clear hb hS HCl HH q0 q1 q3 q4 q5 q6 ql z0 z1 z2 z3 z4 z5 z6 hgw qv
                    have hlt := HF.out.2
                    rw [HF.out.1] at hlt
                    go_wp2
                    go_roundw
                    case rel => exact ⟨p + 1, hkn, by rw [HF.out.1]; go_num, by go_num, hS1⟩
                    case measure => simp [intOf]; omega
                · have hke : p = nl := by omega
                  subst hke
                  clear HAl HF3
                  obtain ⟨q0, q1, q3, q4, q5, q6, ql⟩ := HC.out wr hS.out
                  go_wp2
                  clear q0 q1 q3 q4 q5 q6 ql
                  go_ret
                  exact ⟨rfl, HPB.out _ hS.out⟩
set_option maxHeartbeats 16000000 in
set_option maxRecDepth 100000 in
theorem rcountNe_c (d : Nat) (ih : RCt d) (t : Tr (d + 1)) (va : Value) (B : Nat) (nm : ByteArray) (w : World) (ha : ExVal w B d t va) (hB : B ≤ w.heap.size) (ht : wM (d + 1) t ≤ 3000000) (hk : TrN.kind t = 1) (hn : ¬ TrN.name t = nm) :
    Calls Tryd.prog 28 #[va, .string nm] w fun e w' => e = .returned (.int .i64 (cntN (d + 1) t nm.data.toList : Nat)) ∧ Below w.heap.size w w' := by
  obtain ⟨o3, c3, o4, c4, o5, c5, o6, c6, ea, k3, k4, k5, k6⟩ := id ha
  subst ea
  have hM := wM_succ t
  have lenB : (TrN.binds t).length ≤ (bndM t).length := by simp [bndM]
  have lenA : (TrN.args t).length ≤ ((TrN.args t).map (wM d)).sum := len_le_sum _ _ (fun x _ => wM_pos d x)
  have lenL : (TrN.alts t).length ≤ ((TrN.alts t).map (fun a => 4 * a.1.vars.length + wM d a.2)).sum := len_le_sum _ _ (fun x _ => by have := wM_pos d x.2; omega)
  have hmem : ∀ {α : Type} (f : α → Nat) (l : List α) (k : Nat) (h : k < l.length), f l[k] ≤ (l.map f).sum := fun f l k h => by
    have h1 := take_sum f l k h
    have h2 := take_le f l (k + 1)
    omega
  obtain ⟨n3, hn3⟩ : ∃ n, (TrN.params t).length = n := ⟨_, rfl⟩
  obtain ⟨nb, hnb⟩ : ∃ n, (TrN.binds t).length = n := ⟨_, rfl⟩
  obtain ⟨na, hna⟩ : ∃ n, (TrN.args t).length = n := ⟨_, rfl⟩
  obtain ⟨nl, hnl⟩ : ∃ n, (TrN.alts t).length = n := ⟨_, rfl⟩
  obtain ⟨em, hem⟩ : ∃ n, TrN.name t = n := ⟨_, rfl⟩
  obtain ⟨kd, hkd⟩ : ∃ n, TrN.kind t = n := ⟨_, rfl⟩
  obtain ⟨nu, hnu⟩ : ∃ n, TrN.num t = n := ⟨_, rfl⟩
  rw [hn3, hnb, hna, hnl, hem, hkd, hnu]
  obtain ⟨V, hV⟩ : ∃ V, w.alloc (.cells #[.int .i64 kd, .string em, .int .i64 nu, .slice o3 n3 c3, .slice o4 nb c4, .slice o5 na c5, .slice o6 nl c6] 29) = V := ⟨_, rfl⟩
  have kV : Blk V w.heap.size #[.int .i64 kd, .string em, .int .i64 nu, .slice o3 n3 c3, .slice o4 nb c4, .slice o5 na c5, .slice o6 nl c6] 29 := by rw [← hV]; exact Blk.new w _ _
  have bV : Below w.heap.size w V := by rw [← hV]; exact below1 w _
  obtain ⟨ab, hab⟩ : ∃ ab, w.heap.size = ab := ⟨_, rfl⟩
  have hsame : ∀ W, Below w.heap.size w W → ∀ g off, g < B → W.cell? ⟨g, off, none⟩ = w.cell? ⟨g, off, none⟩ := fun W hW g off hg => hW.cell (p := ⟨g, off, none⟩) (by show g < w.heap.size; omega)
  obtain ⟨PB, hPB⟩ : ∃ P : World → Prop, (fun W => Blk W ab #[.int .i64 kd, .string em, .int .i64 nu, .slice o3 n3 c3, .slice o4 nb c4, .slice o5 na c5, .slice o6 nl c6] 29 ∧ Below w.heap.size w W) = P := ⟨_, rfl⟩
  have HC : Hid (∀ W, PB W → W.cell? ⟨ab, 0, none⟩ = some (.int .i64 kd) ∧ W.cell? ⟨ab, 1, none⟩ = some (.string em) ∧ W.cell? ⟨ab, 3, none⟩ = some (.slice o3 n3 c3) ∧ W.cell? ⟨ab, 4, none⟩ = some (.slice o4 nb c4) ∧ W.cell? ⟨ab, 5, none⟩ = some (.slice o5 na c5) ∧ W.cell? ⟨ab, 6, none⟩ = some (.slice o6 nl c6) ∧ ab < W.heap.size) := by
    intro W hW
    rw [← hPB] at hW
    obtain ⟨hk, -⟩ := hW
    exact ⟨hk.cell 0 _ rfl, hk.cell 1 _ rfl, hk.cell 3 _ rfl, hk.cell 4 _ rfl, hk.cell 5 _ rfl, hk.cell 6 _ rfl, hk.lt⟩
  have HPB : Hid (∀ W, PB W → Below w.heap.size w W) := fun W hW => by rw [← hPB] at hW; exact hW.2
  have lenP : (TrN.params t).length ≤ (bndM t).length := by simp [bndM]
  have HP : Hid (∀ W, Below w.heap.size w W → Calls Tryd.prog 42 #[.slice o3 n3 c3, .string nm] W fun e w' => e = .returned (.bool ((dl (TrN.params t)).contains nm.data.toList)) ∧ w' = W) := fun W hW => by
    rw [← hn3]
    exact rhas_c _ o3 c3 B nm W (k3.same (hsame W hW)) (by have := hW.size; omega) (by omega)
  have HBd : Hid (∀ W, Below w.heap.size w W → Calls Tryd.prog 43 #[.slice o4 nb c4] W fun e w' => ∃ o' c', e = .returned (.slice o' nb c') ∧ TxIn w' w'.heap.size o' ((TrN.binds t).map Prod.fst) ∧ Below W.heap.size W w') := fun W hW => by
    rw [← hnb]
    exact rbindNames_c d _ o4 c4 B W (k4.mono (fun x g off hg h => ⟨(hsame W hW _ _ hg).trans h.1, ExAt.same (hsame W hW) d _ _ _ h.2⟩)) (by have := hW.size; omega) (by omega)
  have HHs : Hid (∀ W o' c', TxIn W W.heap.size o' ((TrN.binds t).map Prod.fst) → Calls Tryd.prog 42 #[.slice o' nb c', .string nm] W fun e w' => e = .returned (.bool ((dl ((TrN.binds t).map Prod.fst)).contains nm.data.toList)) ∧ w' = W) := fun W o' c' h => by
    have := rhas_c _ o' c' W.heap.size nm W h (Nat.le_refl _) (by rw [List.length_map]; omega)
    rw [List.length_map, hnb] at this
    exact this
  have HBn : Hid (∀ k (hk : k < (TrN.binds t).length), ∃ g off, o4 = some ⟨g, off, none⟩ ∧ g < w.heap.size ∧ ∀ W, Below w.heap.size w W → Ld7 W B d (TrN.binds t)[k].2 g (off + k * 8 + 1) ∧ ∀ v, ExVd W B d (TrN.binds t)[k].2 v → Calls Tryd.prog 28 #[v, .string nm] W fun e w' => e = .returned (.int .i64 (cntN d (TrN.binds t)[k].2 nm.data.toList : Nat)) ∧ Below W.heap.size W w') := by
    intro k hk
    rcases k4 with h9 | ⟨g, off, e, hg, h9⟩
    · rw [h9] at hk; cases hk
    · refine ⟨g, off, e, by omega, fun W hW => ⟨ld7 d _ _ _ (ExAt.same (hsame W hW) d _ _ _ (h9 k hk).2), fun v hv => ih _ v B nm W hv (by have := hW.size; omega) (by have := hmem (fun b : ByteArray × Tr d => wM d b.2) (TrN.binds t) k hk; omega)⟩⟩
  have HAr : Hid (∀ k (hk : k < (TrN.args t).length), ∃ g off, o5 = some ⟨g, off, none⟩ ∧ g < w.heap.size ∧ ∀ W, Below w.heap.size w W → Ld7 W B d (TrN.args t)[k] g (off + k * 7) ∧ ∀ v, ExVd W B d (TrN.args t)[k] v → Calls Tryd.prog 28 #[v, .string nm] W fun e w' => e = .returned (.int .i64 (cntN d (TrN.args t)[k] nm.data.toList : Nat)) ∧ Below W.heap.size W w') := by
    intro k hk
    rcases k5 with h9 | ⟨g, off, e, hg, h9⟩
    · rw [h9] at hk; cases hk
    · refine ⟨g, off, e, by omega, fun W hW => ⟨ld7 d _ _ _ (ExAt.same (hsame W hW) d _ _ _ (h9 k hk)), fun v hv => ih _ v B nm W hv (by have := hW.size; omega) (by have := hmem (wM d) (TrN.args t) k hk; omega)⟩⟩
  have HAl : Hid (∀ k (hk : k < (TrN.alts t).length), ∃ g off, o6 = some ⟨g, off, none⟩ ∧ g < w.heap.size ∧ ∀ W, Below w.heap.size w W → (∃ ov cv, W.cell? ⟨g, off + k * 11 + 3, none⟩ = some (.slice ov (TrN.alts t)[k].1.vars.length cv) ∧ Calls Tryd.prog 42 #[.slice ov (TrN.alts t)[k].1.vars.length cv, .string nm] W fun e w' => e = .returned (.bool ((dl (TrN.alts t)[k].1.vars).contains nm.data.toList)) ∧ w' = W) ∧ Ld7 W B d (TrN.alts t)[k].2 g (off + k * 11 + 4) ∧ ∀ v, ExVd W B d (TrN.alts t)[k].2 v → Calls Tryd.prog 28 #[v, .string nm] W fun e w' => e = .returned (.int .i64 (cntN d (TrN.alts t)[k].2 nm.data.toList : Nat)) ∧ Below W.heap.size W w') := by
    intro k hk
    rcases k6 with h9 | ⟨g, off, e, hg, h9⟩
    · rw [h9] at hk; cases hk
    · have hm := hmem (fun a : AltH × Tr d => 4 * a.1.vars.length + wM d a.2) (TrN.alts t) k hk
      obtain ⟨-, -, -, ⟨ov, cv, q3, q4⟩, q5⟩ := h9 k hk
      refine ⟨g, off, e, by omega, fun W hW => ⟨⟨ov, cv, (hsame W hW _ _ hg).trans q3, rhas_c _ ov cv B nm W (q4.same (hsame W hW)) (by have := hW.size; omega) (by omega)⟩, ld7 d _ _ _ (ExAt.same (hsame W hW) d _ _ _ q5), fun v hv => ih _ v B nm W hv (by have := hW.size; omega) (by omega)⟩⟩
  have HN : Hid ((TrN.binds t).length = nb ∧ (TrN.args t).length = na ∧ (TrN.alts t).length = nl) := ⟨hnb, hna, hnl⟩
  have HV0 : Hid (isV t nm.data.toList = false) := by
    have h : isV t nm.data.toList = false := by
      unfold isV
      rw [hkd, hem]
      simp only [show kd = 1 from hkd ▸ hk, beq_self_eq_true, Bool.true_and]; exact beq_eq_false_iff_ne.2 (fun h => hn (hem.trans (ba_ext h.symm)))
    exact h
  have HL : Hid (∀ g', g' < w.heap.size → ∀ W, Below w.heap.size w W → g' < W.heap.size) := fun g' h1 W hW => Nat.lt_of_lt_of_le h1 hW.size
  have hnbI : (nb : Int) ≤ 3000000 := by omega
  have hnaI : (na : Int) ≤ 3000000 := by omega
  have hnlI : (nl : Int) ≤ 3000000 := by omega
  have HKV : Hid (PB V) := by
    have h : PB V := by rw [← hPB]; exact ⟨by rw [← hab]; exact kV, bV⟩
    exact h
  have HKb : Hid (∀ W W', PB W → Below W.heap.size W W' → PB W') := fun W W' h hb => by
    rw [← hPB] at h ⊢
    exact ⟨h.1.below hb, h.2.trans (hb.mono h.2.size)⟩
  have hT : 0 + ((TrN.binds t).map (fun b => cntN d b.2 nm.data.toList)).sum + ((TrN.args t).map (fun e => cntN d e nm.data.toList)).sum + ((TrN.alts t).map (fun a => if (dl a.1.vars).contains nm.data.toList then 0 else cntN d a.2 nm.data.toList)).sum ≤ 3000000 := by
    have h := cntIn_four (cntFour d) t nm.data.toList
    unfold cntIn at h
    rw [HV0.out] at h
    have e : (if false = true then 1 else 0) = (0 : Nat) := rfl
    rw [e] at h
    omega
  have t1 := take_le (fun b : ByteArray × Tr d => cntN d b.2 nm.data.toList) (TrN.binds t)
  have t2 := take_le (fun e : Tr d => cntN d e nm.data.toList) (TrN.args t)
  have t3 := take_le (fun a : AltH × Tr d => if (dl a.1.vars).contains nm.data.toList then 0 else cntN d a.2 nm.data.toList) (TrN.alts t)
  obtain ⟨F1, hF1⟩ : ∃ F : Nat → Nat, (fun k => 0 + (((TrN.binds t).take k).map (fun b => cntN d b.2 nm.data.toList)).sum) = F := ⟨_, rfl⟩
  have e1 : F1 nb = 0 + ((TrN.binds t).map (fun b => cntN d b.2 nm.data.toList)).sum := by rw [← hF1, ← hnb]; show _ + (((TrN.binds t).take _).map _).sum = _; rw [List.take_length]
  have HF1 : Hid (F1 0 = 0 ∧ ∀ k (h : k < (TrN.binds t).length), F1 (k + 1) = F1 k + cntN d (TrN.binds t)[k].2 nm.data.toList ∧ F1 (k + 1) ≤ 3000000) := ⟨by rw [← hF1]; rfl, fun k h => ⟨by rw [← hF1]; show _ + _ = _ + _ + _; rw [take_sum _ _ k h]; omega, by rw [← hF1]; show _ + _ ≤ _; have := t1 (k + 1); omega⟩⟩
  obtain ⟨F2, hF2⟩ : ∃ F : Nat → Nat, (fun k => F1 nb + (((TrN.args t).take k).map (fun e => cntN d e nm.data.toList)).sum) = F := ⟨_, rfl⟩
  have e2 : F2 na = F1 nb + ((TrN.args t).map (fun e => cntN d e nm.data.toList)).sum := by rw [← hF2, ← hna]; show _ + (((TrN.args t).take _).map _).sum = _; rw [List.take_length]
  have HF2 : Hid (F2 0 = F1 nb ∧ ∀ k (h : k < (TrN.args t).length), F2 (k + 1) = F2 k + cntN d (TrN.args t)[k] nm.data.toList ∧ F2 (k + 1) ≤ 3000000) := ⟨by rw [← hF2]; rfl, fun k h => ⟨by rw [← hF2]; show _ + _ = _ + _ + _; rw [take_sum _ _ k h]; omega, by rw [← hF2]; show _ + _ ≤ _; have := t2 (k + 1); omega⟩⟩
  obtain ⟨F3, hF3⟩ : ∃ F : Nat → Nat, (fun k => F2 na + (((TrN.alts t).take k).map (fun a => if (dl a.1.vars).contains nm.data.toList then 0 else cntN d a.2 nm.data.toList)).sum) = F := ⟨_, rfl⟩
  have e3 : F3 nl = F2 na + ((TrN.alts t).map (fun a => if (dl a.1.vars).contains nm.data.toList then 0 else cntN d a.2 nm.data.toList)).sum := by rw [← hF3, ← hnl]; show _ + (((TrN.alts t).take _).map _).sum = _; rw [List.take_length]
  have HF3 : Hid (F3 0 = F2 na ∧ ∀ k (h : k < (TrN.alts t).length), F3 (k + 1) = F3 k + (if (dl (TrN.alts t)[k].1.vars).contains nm.data.toList then 0 else cntN d (TrN.alts t)[k].2 nm.data.toList) ∧ F3 (k + 1) ≤ 3000000) := ⟨by rw [← hF3]; rfl, fun k h => ⟨by rw [← hF3]; show _ + _ = _ + _ + _; rw [take_sum _ _ k h]; omega, by rw [← hF3]; show _ + _ ≤ _; have := t3 (k + 1); omega⟩⟩
  have HE : cntN (d + 1) t nm.data.toList = if (dl (TrN.params t)).contains nm.data.toList || (dl ((TrN.binds t).map Prod.fst)).contains nm.data.toList then 0 else F3 nl := by
    have h : hidM t nm.data.toList = ((dl (TrN.params t)).contains nm.data.toList || (dl ((TrN.binds t).map Prod.fst)).contains nm.data.toList) := by
      unfold hidM bndM dl
      rw [List.map_append]
      rw [Bool.eq_iff_iff]
      simp only [List.contains_iff_mem, Bool.or_eq_true, List.mem_append]
    have hh : cntIn t nm.data.toList = F3 nl := by
      unfold cntIn
      rw [HV0.out, e3, e2, e1]
      rfl
    rw [cntSucc, h, hh]
  rw [HE]
  generalize (dl ((TrN.binds t).map Prod.fst)).contains nm.data.toList = bb at HHs ⊢
  generalize (TrN.binds t).map Prod.fst = ns at HBd HHs
  generalize (dl (TrN.params t)).contains nm.data.toList = bp at HP ⊢
  have hkd1 : kd = 1 := hkd ▸ hk
  have hem1 : ¬ em = nm := fun h => hn (hem.trans h)
  have hem2 : (em.toList == nm.toList) = false := beq_eq_false_iff_ne.2 (fun e => hem1 (ba_ext (by rw [ByteArray.toList_eq, ByteArray.toList_eq] at e; exact e)))
  rw [hkd, hem] at *
  clear ha hB ht k3 k4 k5 k6 hM lenB lenA lenL hmem hsame kV bV hn3 hnb hna hnl hem hkd hnu ih hF1 hF2 hF3 HE HV0 hk hn lenP hT t1 t2 t3 e1 e2 e3
  subst hkd1
  go_enter Tryd.func28, Tryd.ntmps28
  go_upto_region 1 with fail
  (try rw [hV])
  (try rw [hab])
  clear hV hab hPB
  obtain ⟨q0, q1, q3, q4, q5, q6, ql⟩ := HC.out V HKV.out
  go_wp2_with (go_at_call 42; fail)
  clear q0 q1 q3 q4 q5 q6 ql
  refine (HP.out V (HPB.out _ HKV.out)).mono ?_
  rintro e y0 ⟨rfl, e0⟩
  subst e0
  cases bp with
  | true =>
    go_wp2
    go_ret
    exact ⟨rfl, HPB.out _ HKV.out⟩
  | false =>
    obtain ⟨q0, q1, q3, q4, q5, q6, ql⟩ := HC.out y0 HKV.out
    go_wp2_with (go_at_call 43; fail)
    clear q0 q1 q3 q4 q5 q6 ql
    refine (HBd.out y0 (HPB.out _ HKV.out)).mono ?_
    rintro e y1 ⟨o', c', rfl, htx, hb⟩
    have HS1 : Hid (PB y1) := HKb.out _ _ HKV.out hb
    have HHc : Hid (Calls Tryd.prog 42 #[.slice o' nb c', .string nm] y1 fun e w' => e = .returned (.bool bb) ∧ w' = y1) := HHs.out y1 o' c' htx
    clear htx hb HHs HBd HP HKV
    go_wp2_with (go_at_call 42; fail)
    refine HHc.out.mono ?_
    rintro e y2 ⟨rfl, e2⟩
    subst e2
    clear HHc
    cases bb with
    | true =>
      go_wp2
      go_ret
      exact ⟨rfl, HPB.out _ HS1⟩
    | false =>
      obtain ⟨q0, q1, q3, q4, q5, q6, ql⟩ := HC.out y2 HS1.out
      go_wp2
      clear q0 q1 q3 q4 q5 q6 ql
      have HKV := HS1
      clear HS1
      go_loopw [5, 6] (fun ov i wr => ∃ k : Nat, k ≤ nb ∧ ov = .int .i64 (F1 k : Nat) ∧ i = .int .i64 k ∧ Hid (PB wr)) (fun _ i _ => nb - (intOf i).toNat)
      case atStart => exact ⟨0, Nat.zero_le _, by rw [HF1.out.1]; rfl, rfl, HKV⟩
      case round =>
        obtain ⟨k, hk, rfl, rfl, hS⟩ := hrel
        clear HKV
        by_cases hkn : k < nb
        · have hkl : k < (TrN.binds t).length := by rw [HN.out.1]; exact hkn
          obtain ⟨g, off, rfl, hg, hX⟩ := HBn.out k hkl
          obtain ⟨q0, q1, q3, q4, q5, q6, ql⟩ := HC.out wr hS.out
          obtain ⟨⟨k0, k1, k2, p3, l3, m3, p4, l4, m4, p5, l5, m5, p6, l6, m6, z0, z1, z2, z3, z4, z5, z6, zv⟩, hcall⟩ := hX wr (HPB.out _ hS.out)
          have HCl : Hid (Calls Tryd.prog 28 #[.agg #[.int .i64 k0, .string k1, .int .i64 k2, .slice p3 l3 m3, .slice p4 l4 m4, .slice p5 l5 m5, .slice p6 l6 m6], .string nm] wr fun e w' => e = .returned (.int .i64 (cntN d (TrN.binds t)[k].2 nm.data.toList : Nat)) ∧ Below wr.heap.size wr w') := hcall _ zv
          have hgw := HL.out g hg wr (HPB.out _ hS.out)
          have HF : Hid (F1 (k + 1) = F1 k + cntN d (TrN.binds t)[k].2 nm.data.toList ∧ F1 (k + 1) ≤ 3000000) := HF1.out.2 k hkl
          generalize cntN d (TrN.binds t)[k].2 nm.data.toList = oc at HCl HF
          clear hX hcall zv hkl hg HBn HAr HAl HF1 HF2 HF3
          go_wp2_with (go_at_call 28; fail)
          refine HCl.out.mono ?_
          rintro e y1 ⟨rfl, hb⟩
          have hS1 : Hid (PB y1) := HKb.out _ _ hS.out hb
          clear hb hS HCl q0 q1 q3 q4 q5 q6 ql z0 z1 z2 z3 z4 z5 z6 hgw
          have hlt := HF.out.2
          rw [HF.out.1] at hlt
          go_wp2
          go_roundw
          case rel => exact ⟨k + 1, hkn, by rw [HF.out.1]; go_num, by go_num, hS1⟩
          case measure => simp [intOf]; omega
        · have hke : k = nb := by omega
          subst hke
          clear HBn HF1
          obtain ⟨q0, q1, q3, q4, q5, q6, ql⟩ := HC.out wr hS.out
          go_wp2
          clear q0 q1 q3 q4 q5 q6 ql
          go_loopw [5, 7] (fun ov i wr => ∃ k : Nat, k ≤ na ∧ ov = .int .i64 (F2 k : Nat) ∧ i = .int .i64 k ∧ Hid (PB wr)) (fun _ i _ => na - (intOf i).toNat)
          case atStart => exact ⟨0, Nat.zero_le _, by rw [HF2.out.1], rfl, hS⟩
          case round =>
            clear hS hk hkn
            obtain ⟨j, hj, rfl, rfl, hS⟩ := hrel
            by_cases hkn : j < na
            · have hkl : j < (TrN.args t).length := by rw [HN.out.2.1]; exact hkn
              obtain ⟨g, off, rfl, hg, hX⟩ := HAr.out j hkl
              obtain ⟨q0, q1, q3, q4, q5, q6, ql⟩ := HC.out wr hS.out
              obtain ⟨⟨k0, k1, k2, p3, l3, m3, p4, l4, m4, p5, l5, m5, p6, l6, m6, z0, z1, z2, z3, z4, z5, z6, zv⟩, hcall⟩ := hX wr (HPB.out _ hS.out)
              have HCl : Hid (Calls Tryd.prog 28 #[.agg #[.int .i64 k0, .string k1, .int .i64 k2, .slice p3 l3 m3, .slice p4 l4 m4, .slice p5 l5 m5, .slice p6 l6 m6], .string nm] wr fun e w' => e = .returned (.int .i64 (cntN d (TrN.args t)[j] nm.data.toList : Nat)) ∧ Below wr.heap.size wr w') := hcall _ zv
              have hgw := HL.out g hg wr (HPB.out _ hS.out)
              have HF : Hid (F2 (j + 1) = F2 j + cntN d (TrN.args t)[j] nm.data.toList ∧ F2 (j + 1) ≤ 3000000) := HF2.out.2 j hkl
              generalize cntN d (TrN.args t)[j] nm.data.toList = oc at HCl HF
              clear hX hcall zv hkl hg HAr HAl HF2 HF3
              go_wp2_with (go_at_call 28; fail)
              refine HCl.out.mono ?_
              rintro e y1 ⟨rfl, hb⟩
              have hS1 : Hid (PB y1) := HKb.out _ _ hS.out hb
              clear hb hS HCl q0 q1 q3 q4 q5 q6 ql z0 z1 z2 z3 z4 z5 z6 hgw
              have hlt := HF.out.2
              rw [HF.out.1] at hlt
              go_wp2
              go_roundw
              case rel => exact ⟨j + 1, hkn, by rw [HF.out.1]; go_num, by go_num, hS1⟩
              case measure => simp [intOf]; omega
            · have hke : j = na := by omega
              subst hke
              clear HAr HF2
              obtain ⟨q0, q1, q3, q4, q5, q6, ql⟩ := HC.out wr hS.out
              go_wp2
              clear q0 q1 q3 q4 q5 q6 ql
              go_loopw [5, 8] (fun ov i wr => ∃ k : Nat, k ≤ nl ∧ ov = .int .i64 (F3 k : Nat) ∧ i = .int .i64 k ∧ Hid (PB wr)) (fun _ i _ => nl - (intOf i).toNat)
              case atStart => exact ⟨0, Nat.zero_le _, by rw [HF3.out.1], rfl, hS⟩
              case round =>
                clear hS hj hkn
                obtain ⟨p, hp, rfl, rfl, hS⟩ := hrel
                by_cases hkn : p < nl
                · have hkl : p < (TrN.alts t).length := by rw [HN.out.2.2]; exact hkn
                  obtain ⟨g, off, rfl, hg, hX⟩ := HAl.out p hkl
                  obtain ⟨q0, q1, q3, q4, q5, q6, ql⟩ := HC.out wr hS.out
                  obtain ⟨⟨ov, cv, qv, hhas⟩, ⟨k0, k1, k2, p3, l3, m3, p4, l4, m4, p5, l5, m5, p6, l6, m6, z0, z1, z2, z3, z4, z5, z6, zv⟩, hcall⟩ := hX wr (HPB.out _ hS.out)
                  obtain ⟨vn, hvn⟩ : ∃ n, (TrN.alts t)[p].1.vars.length = n := ⟨_, rfl⟩
                  rw [hvn] at qv hhas
                  have HH : Hid (Calls Tryd.prog 42 #[.slice ov vn cv, .string nm] wr fun e w' => e = .returned (.bool ((dl (TrN.alts t)[p].1.vars).contains nm.data.toList)) ∧ w' = wr) := hhas
                  have HCl : Hid (Calls Tryd.prog 28 #[.agg #[.int .i64 k0, .string k1, .int .i64 k2, .slice p3 l3 m3, .slice p4 l4 m4, .slice p5 l5 m5, .slice p6 l6 m6], .string nm] wr fun e w' => e = .returned (.int .i64 (cntN d (TrN.alts t)[p].2 nm.data.toList : Nat)) ∧ Below wr.heap.size wr w') := hcall _ zv
                  have hgw := HL.out g hg wr (HPB.out _ hS.out)
                  have HF : Hid (F3 (p + 1) = F3 p + (if (dl (TrN.alts t)[p].1.vars).contains nm.data.toList then 0 else cntN d (TrN.alts t)[p].2 nm.data.toList) ∧ F3 (p + 1) ≤ 3000000) := HF3.out.2 p hkl
                  generalize cntN d (TrN.alts t)[p].2 nm.data.toList = oc at HCl HF
                  generalize (dl (TrN.alts t)[p].1.vars).contains nm.data.toList = bh at HH HF
                  clear hX hcall hhas zv hvn hkl hg HAl HF3
                  go_wp2_with (go_at_call 42; fail)
                  refine HH.out.mono ?_
                  rintro e y0 ⟨rfl, e0⟩
                  subst e0
                  cases bh with
                  | true =>
                    clear HCl HH
                    go_wp2
                    go_roundw
                    case rel => exact ⟨p + 1, hkn, by rw [HF.out.1]; rfl, by go_num, hS⟩
                    case measure => simp [intOf]; omega
                  | false =>
                    replace HF : Hid (F3 (p + 1) = F3 p + oc ∧ F3 (p + 1) ≤ 3000000) := HF.out
                    go_wp2_with (go_at_call 28; fail)
                    refine HCl.out.mono ?_
                    rintro e y1 ⟨rfl, hb⟩
                    have hS1 : Hid (PB y1) := HKb.out _ _ hS.out hb
                    clear hb hS HCl HH q0 q1 q3 q4 q5 q6 ql z0 z1 z2 z3 z4 z5 z6 hgw qv
                    have hlt := HF.out.2
                    rw [HF.out.1] at hlt
                    go_wp2
                    go_roundw
                    case rel => exact ⟨p + 1, hkn, by rw [HF.out.1]; go_num, by go_num, hS1⟩
                    case measure => simp [intOf]; omega
                · have hke : p = nl := by omega
                  subst hke
                  clear HAl HF3
                  obtain ⟨q0, q1, q3, q4, q5, q6, ql⟩ := HC.out wr hS.out
                  go_wp2
                  clear q0 q1 q3 q4 q5 q6 ql
                  go_ret
                  exact ⟨rfl, HPB.out _ hS.out⟩
theorem rcount_all : ∀ d, RCt d
  | 0 => fun t => nomatch t
  | d + 1 => fun t va B nm w ha hB ht => by
    have ih := rcount_all d
    by_cases hk : TrN.kind t = 1
    · by_cases hn : TrN.name t = nm
      · exact rcountYes_c d ih t va B nm w ha hB ht hk hn
      · exact rcountNe_c d ih t va B nm w ha hB ht hk hn
    · exact rcountNo_c d ih t va B nm w ha hB ht hk
end Go.Proofs.YtjmpjfggbhongaaDoor
