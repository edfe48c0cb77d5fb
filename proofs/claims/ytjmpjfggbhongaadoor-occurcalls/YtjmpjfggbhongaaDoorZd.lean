/-
  The document's answer for occurrences (thunkmillref16): of, by a contract.
-/
import Derived.Test.YtjmpjfggbhongaaDoorZc
namespace Go.Proofs.YtjmpjfggbhongaaDoor
open Go.RowKit Go.Shelf Go.Maps
set_option linter.unusedVariables false

theorem rgBoth {α : Type} (f : α → Nat) (hf : ∀ a, 1 ≤ f a ∧ f a ≤ 5) : ∀ (l : List α) (o : Nat), 1 ≤ o ∧ o ≤ 5 → 1 ≤ l.foldl (fun o a => bothM o (f a)) o ∧ l.foldl (fun o a => bothM o (f a)) o ≤ 5
  | [], o, h => h
  | a :: l, o, h => rgBoth f hf l _ (by
      have := comb_ok (q := false) h (hf a)
      exact this)
theorem rangeIn (d : Nat) (t : Tr (d + 1)) (x : List UInt8) : 1 ≤ inN (fun e => ofM d e x) t x ∧ inN (fun e => ofM d e x) t x ≤ 5 := by
  have h := comb_ok (q := false) (rgBoth (fun e => ofM d e x) (fun e => ofM_rg d e x) (TrN.args t) _ (rgBoth (fun b : ByteArray × Tr d => ofM d b.2 x) (fun b => ofM_rg d b.2 x) (TrN.binds t) (if isV t x then 2 else 1) (by split <;> decide))) (gg_alts (TrN.alts t) x)
  exact h
set_option maxHeartbeats 16000000 in
set_option maxRecDepth 100000 in
theorem rof_succ (d : Nat) (ih : ROf d) : ROf (d + 1) := by
  intro t va B nm w ha hB ht
  change ExVal w B d t va at ha
  obtain ⟨o3, c3, o4, c4, o5, c5, o6, c6, ea, k3, k4, k5, k6⟩ := id ha
  have hM := wM_succ t
  have lenB : (TrN.params t).length + (TrN.binds t).length = (bndM t).length := by simp [bndM]
  obtain ⟨AV, hAV⟩ : ∃ AV, va = AV := ⟨_, rfl⟩
  obtain ⟨V, hV⟩ : ∃ V, w.alloc (.cells #[.int .i64 (TrN.kind t), .string (TrN.name t), .int .i64 (TrN.num t), .slice o3 (TrN.params t).length c3, .slice o4 (TrN.binds t).length c4, .slice o5 (TrN.args t).length c5, .slice o6 (TrN.alts t).length c6] 29) = V := ⟨_, rfl⟩
  obtain ⟨ab, hab⟩ : ∃ ab, w.heap.size = ab := ⟨_, rfl⟩
  have kV : Blk V ab #[.int .i64 (TrN.kind t), .string (TrN.name t), .int .i64 (TrN.num t), .slice o3 (TrN.params t).length c3, .slice o4 (TrN.binds t).length c4, .slice o5 (TrN.args t).length c5, .slice o6 (TrN.alts t).length c6] 29 := by rw [← hV, ← hab]; exact Blk.new w _ _
  have bV : Below w.heap.size w V := by rw [← hV]; exact below1 w _
  have hsame : ∀ W, Below w.heap.size w W → ∀ g off, g < B → W.cell? ⟨g, off, none⟩ = w.cell? ⟨g, off, none⟩ := fun W hW g off hg => hW.cell (p := ⟨g, off, none⟩) (by show g < w.heap.size; omega)
  obtain ⟨PB, hPB⟩ : ∃ P : World → Prop, (fun W => Blk W ab #[.int .i64 (TrN.kind t), .string (TrN.name t), .int .i64 (TrN.num t), .slice o3 (TrN.params t).length c3, .slice o4 (TrN.binds t).length c4, .slice o5 (TrN.args t).length c5, .slice o6 (TrN.alts t).length c6] 29 ∧ Below w.heap.size w W) = P := ⟨_, rfl⟩
  have HC : Hid (∀ W, PB W → W.cell? ⟨ab, 0, none⟩ = some (.int .i64 (TrN.kind t)) ∧ W.cell? ⟨ab, 1, none⟩ = some (.string (TrN.name t)) ∧ W.cell? ⟨ab, 2, none⟩ = some (.int .i64 (TrN.num t)) ∧ W.cell? ⟨ab, 3, none⟩ = some (.slice o3 (TrN.params t).length c3) ∧ W.cell? ⟨ab, 4, none⟩ = some (.slice o4 (TrN.binds t).length c4) ∧ W.cell? ⟨ab, 5, none⟩ = some (.slice o5 (TrN.args t).length c5) ∧ W.cell? ⟨ab, 6, none⟩ = some (.slice o6 (TrN.alts t).length c6) ∧ ab < W.heap.size) := by
    intro W hW
    rw [← hPB] at hW
    obtain ⟨hk, -⟩ := hW
    exact ⟨hk.cell 0 _ rfl, hk.cell 1 _ rfl, hk.cell 2 _ rfl, hk.cell 3 _ rfl, hk.cell 4 _ rfl, hk.cell 5 _ rfl, hk.cell 6 _ rfl, hk.lt⟩
  have HPB : Hid (∀ W, PB W → Below w.heap.size w W) := fun W hW => by rw [← hPB] at hW; exact hW.2
  have HKV : Hid (PB V) := by
    have h : PB V := by rw [← hPB]; exact ⟨kV, bV⟩
    exact h
  have HKb : Hid (∀ W W', PB W → Below W.heap.size W W' → PB W') := fun W W' h hb => by
    rw [← hPB] at h ⊢
    exact ⟨h.1.below hb, h.2.trans (hb.mono h.2.size)⟩
  have HP : Hid (∀ W, PB W → Calls Tryd.prog 42 #[.slice o3 (TrN.params t).length c3, .string nm] W fun e w' => e = .returned (.bool ((dl (TrN.params t)).contains nm.data.toList)) ∧ w' = W) := fun W hW =>
    rhas_c _ o3 c3 B nm W (k3.same (hsame W (HPB.out W hW))) (by have := (HPB.out W hW).size; omega) (by omega)
  have HBd : Hid (∀ W, PB W → Calls Tryd.prog 43 #[.slice o4 (TrN.binds t).length c4] W fun e w' => ∃ o' c', e = .returned (.slice o' (TrN.binds t).length c') ∧ TxIn w' w'.heap.size o' ((TrN.binds t).map Prod.fst) ∧ Below W.heap.size W w') := fun W hW =>
    rbindNames_c d _ o4 c4 B W (k4.mono (fun x g off hg h => ⟨(hsame W (HPB.out W hW) _ _ hg).trans h.1, ExAt.same (hsame W (HPB.out W hW)) d _ _ _ h.2⟩)) (by have := (HPB.out W hW).size; omega) (by omega)
  have HHs : Hid (∀ W o' c', TxIn W W.heap.size o' ((TrN.binds t).map Prod.fst) → Calls Tryd.prog 42 #[.slice o' (TrN.binds t).length c', .string nm] W fun e w' => e = .returned (.bool ((dl ((TrN.binds t).map Prod.fst)).contains nm.data.toList)) ∧ w' = W) := fun W o' c' h => by
    have := rhas_c _ o' c' W.heap.size nm W h (Nat.le_refl _) (by rw [List.length_map]; omega)
    rw [List.length_map] at this
    exact this
  have HIn : Hid (∀ W, PB W → Calls Tryd.prog 44 #[AV, .string nm] W fun e w' => e = .returned (.int .i64 (inN (fun e => ofM d e nm.data.toList) t nm.data.toList : Nat)) ∧ Below W.heap.size W w') := fun W hW => by
    rw [← hAV]
    exact rInLet_c d ih t va B nm W (ha.same (hsame W (HPB.out W hW))) (by have := (HPB.out W hW).size; omega) ht
  have HR := rangeIn d t nm.data.toList
  have HE : ofM (d + 1) t nm.data.toList = if (dl (TrN.params t)).contains nm.data.toList || (dl ((TrN.binds t).map Prod.fst)).contains nm.data.toList then 1 else if TrN.kind t = 5 then withinM (inN (fun e => ofM d e nm.data.toList) t nm.data.toList) else inN (fun e => ofM d e nm.data.toList) t nm.data.toList := by
    have h : hidM t nm.data.toList = ((dl (TrN.params t)).contains nm.data.toList || (dl ((TrN.binds t).map Prod.fst)).contains nm.data.toList) := by
      unfold hidM bndM dl
      rw [List.map_append]
      rw [Bool.eq_iff_iff]
      simp only [List.contains_iff_mem, Bool.or_eq_true, List.mem_append]
    show (if hidM t nm.data.toList then 1 else _) = _
    rw [h]
  rw [HE, ea]
  rw [ea] at hAV
  clear HE ha ea hB ht k3 k4 k5 k6 hM lenB ih hPB kV bV hsame
  generalize inN (fun e => ofM d e nm.data.toList) t nm.data.toList = rr at HIn HR ⊢
  generalize TrN.binds t = bs at *
  generalize (dl (bs.map Prod.fst)).contains nm.data.toList = bb at *
  generalize bs.map Prod.fst = ns at *
  generalize (dl (TrN.params t)).contains nm.data.toList = bp at *
  generalize bs.length = nb at *
  generalize TrN.kind t = kd at *
  generalize TrN.name t = em at *
  generalize TrN.num t = nu at *
  generalize (TrN.params t).length = n3 at *
  generalize (TrN.args t).length = na at *
  generalize (TrN.alts t).length = nl at *
  subst hAV
  clear t bs
  have hRR := HR
  clear HR
  have HRR : Hid (1 ≤ rr ∧ rr ≤ 5) := hRR
  clear hRR
  go_enter Tryd.func27, Tryd.ntmps27
  go_upto_region 1 with fail
  (try rw [hV])
  (try rw [hab])
  clear hV hab
  obtain ⟨q0, q1, q2, q3, q4, q5, q6, ql⟩ := HC.out V HKV.out
  go_wp2_with (go_at_call 42; fail)
  clear q0 q1 q2 q3 q4 q5 q6 ql
  refine (HP.out V HKV.out).mono ?_
  rintro e y0 ⟨rfl, e0⟩
  subst e0
  cases bp with
  | true =>
    go_wp2
    go_ret
    exact ⟨rfl, HPB.out _ HKV.out⟩
  | false =>
    obtain ⟨q0, q1, q2, q3, q4, q5, q6, ql⟩ := HC.out y0 HKV.out
    go_wp2_with (go_at_call 43; fail)
    clear q0 q1 q2 q3 q4 q5 q6 ql
    refine (HBd.out y0 HKV.out).mono ?_
    rintro e y1 ⟨o', c', rfl, htx, hb⟩
    have HS1 : Hid (PB y1) := HKb.out _ _ HKV.out hb
    have HHc : Hid (Calls Tryd.prog 42 #[.slice o' nb c', .string nm] y1 fun e w' => e = .returned (.bool bb) ∧ w' = y1) := HHs.out y1 o' c' htx
    clear htx hb HHs HBd HP
    go_wp2_with (go_at_call 42; fail)
    refine HHc.out.mono ?_
    rintro e y2 ⟨rfl, e2⟩
    subst e2
    clear HHc HKV
    cases bb with
    | true =>
      go_wp2
      go_ret
      exact ⟨rfl, HPB.out _ HS1⟩
    | false =>
      obtain ⟨q0, q1, q2, q3, q4, q5, q6, ql⟩ := HC.out y2 HS1.out
      go_wp2_with (go_at_call 44; fail)
      clear q0 q1 q2 q3 q4 q5 q6 ql
      refine (HIn.out y2 HS1.out).mono ?_
      rintro e y3 ⟨rfl, hb⟩
      have HS2 : Hid (PB y3) := HKb.out _ _ HS1.out hb
      clear hb HS1 HIn
      obtain ⟨q0, q1, q2, q3, q4, q5, q6, ql⟩ := HC.out y3 HS2.out
      by_cases hk : kd = 5
      · subst hk
        go_wp2_with (go_at_call 45; fail)
        clear q0 q1 q2 q3 q4 q5 q6 ql
        refine (rwithin_c rr HRR.out.1 HRR.out.2 _).mono ?_
        rintro e y4 ⟨rfl, e4⟩
        subst e4
        go_wp2
        go_ret
        exact ⟨by simp, HPB.out _ HS2⟩
      · go_wp2
        clear q0 q1 q2 q3 q4 q5 q6 ql
        go_ret
        exact ⟨by simp, HPB.out _ HS2⟩
theorem rof_all : ∀ d, ROf d
  | 0 => fun t => nomatch t
  | d + 1 => rof_succ d (rof_all d)
end Go.Proofs.YtjmpjfggbhongaaDoor
