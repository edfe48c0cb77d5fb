/-
  Package groups: rows that grow side by side; leaning, by a contract.
-/
import Derived.Test.YtkkpkcigflikkaaLb
namespace Go.Proofs.Ytkkpkcigflikkaa
open Go.RowKit Go.Shelf Go.Maps G
set_option linter.unusedVariables false

/-- Rows of numbers of one's own, side by side. -/
def GRows (W : World) (base B n : Nat) (f : Nat → List Nat) : Prop := ∃ u : Nat → Value, FB W B n u 30 ∧ (∀ i, i < n → W.ownsRow base 3 1 (u i) (f i).length ((f i).map nv)) ∧ (∀ i j, i < n → j < n → i ≠ j → ∀ g, (u i).ownBlock = some g → (u j).ownBlock ≠ some g) ∧ B < base ∧ base ≤ W.heap.size
theorem GRows.made (W : World) (n : Nat) : GRows (W.alloc (.cells (madeCells #[.slice none 0 0] n) 30)) (W.heap.size + 1) W.heap.size n (fun _ => []) := ⟨fun _ => .slice none 0 0, fb_made W _ n _, fun i hi => owns_nil _ _ _ _, fun i j _ _ _ g hg => (by cases hg), by omega, by simp⟩
theorem GRows.far {W W' : World} {base B n : Nat} {f : Nat → List Nat} (h : GRows W base B n f) (hs : W.heap.size ≤ W'.heap.size) (hk : ∀ k, k < W.heap.size → B ≤ k → W'.heap[k]? = W.heap[k]?) : GRows W' base B n f := by
  obtain ⟨u, h1, h2, h3, h4, h5⟩ := h
  exact ⟨u, h1.same (hk _ h1.lt (Nat.le_refl _)), fun i hi => owns_same (h2 i hi) (fun g hg => hk g (owns_lt (h2 i hi) hg).2 (by have := (owns_lt (h2 i hi) hg).1; omega)), h3, h4, by omega⟩
theorem GRows.congr {W : World} {base B n : Nat} {f f' : Nat → List Nat} (h : GRows W base B n f) (hf : ∀ i, i < n → f' i = f i) : GRows W base B n f' := by
  obtain ⟨u, h1, h2, h3, h4⟩ := h
  exact ⟨u, h1, fun i hi => by rw [hf i hi]; exact h2 i hi, h3, h4⟩
theorem GRows.at {W : World} {base B n : Nat} {f : Nat → List Nat} (h : GRows W base B n f) {i : Nat} (hi : i < n) : ∃ o cap, W.cell? ⟨B, i, none⟩ = some (.slice o (f i).length cap) ∧ W.ownsRow base 3 1 (.slice o (f i).length cap) (f i).length ((f i).map nv) ∧ W.frozen? ⟨B, i, none⟩ = false ∧ B < W.heap.size ∧ (∀ g, (Value.slice o (f i).length cap).ownBlock = some g → base ≤ g) := by
  obtain ⟨u, h1, h2, h3, h4, h5⟩ := h
  obtain ⟨o, c, e, _, _⟩ := owns_form (h2 i hi)
  have h6 := h2 i hi
  rw [e] at h6
  exact ⟨o, c, by rw [h1.cell hi, e], h6, h1.frozen i, h1.lt, fun g hg => (owns_lt h6 hg).1⟩
/-- A row grown by one, and stored. -/
theorem GRows.push {W W' : World} {base B n : Nat} {f : Nat → List Nat} {q x : Nat} {o : Option Addr} {cap og oc : Nat} (h : GRows W base B n f) (hq : q < n) (hc : W.cell? ⟨B, q, none⟩ = some (.slice o (f q).length cap)) (hg : (W.alloc (.cells #[.int .i64 (x : Int)] 3)).grownBy W' (Value.slice o (f q).length cap).ownBlock)
    (ho : W'.ownsRow base 3 1 (.slice (some ⟨og, 0, none⟩) ((f q).length + 1) oc) ((f q).length + 1) ((f q).map nv ++ [.int .i64 (x : Int)])) (ha : (Value.slice o (f q).length cap).ownBlock = some og ∨ og = W.heap.size + 1) :
    GRows (W'.setCell ⟨B, q, none⟩ (.slice (some ⟨og, 0, none⟩) ((f q).length + 1) oc)) base B n (upd f q (f q ++ [x])) := by
  obtain ⟨u, h1, h2, h3, h4, h5⟩ := h
  have hu : u q = .slice o (f q).length cap := by
    have := h1.cell hq
    rw [hc] at this
    exact (Option.some.inj this).symm
  have hsz : W.heap.size + 1 ≤ W'.heap.size := by have := hg.size; simpa using this
  have hne : ∀ g, (Value.slice o (f q).length cap).ownBlock = some g → base ≤ g := fun g hg2 => by rw [← hu] at hg2; exact (owns_lt (h2 q hq) hg2).1
  have oth : ∀ k, k < W.heap.size → (Value.slice o (f q).length cap).ownBlock ≠ some k → W'.heap[k]? = W.heap[k]? := fun k hk hn => (grown_block hg (by simp; omega) hn).trans (Below.heap_alloc W _ k hk)
  have hog : base ≤ og := (owns_lt ho rfl).1
  refine ⟨upd u q (.slice (some ⟨og, 0, none⟩) ((f q).length + 1) oc), (h1.same (oth B h1.lt (fun e => by have := hne B e; omega))).set _, fun i hi => ?_, fun i j hi hj hij g hgi => ?_, h4, by rw [size_set]; omega⟩
  · by_cases e : i = q
    · subst e
      rw [upd_at, upd_at]
      have h9 : W'.ownsRow base 3 1 (.slice (some ⟨og, 0, none⟩) ((f i).length + 1) oc) (f i ++ [x]).length ((f i ++ [x]).map nv) := by simpa [nv] using ho
      exact owns_same h9 (fun g hg2 => heap_set_other _ _ _ _ _ (by have := (owns_lt h9 hg2).1; omega))
    · rw [upd_ne _ _ e, upd_ne _ _ e]
      refine owns_same (h2 i hi) (fun g hg2 => ?_)
      have hl := owns_lt (h2 i hi) hg2
      exact (heap_set_other _ _ _ _ _ (by omega)).trans (oth g hl.2 (fun e2 => by rw [← hu] at e2; exact h3 i q hi hq e g hg2 e2))
  · by_cases e1 : i = q
    · subst e1
      rw [upd_at] at hgi
      have hgg : og = g := by simpa [Value.ownBlock] using hgi
      subst hgg
      rw [upd_ne _ _ (fun e => hij e.symm)]
      intro e3
      rcases ha with ha | ha
      · rw [← hu] at ha; exact h3 i j hi hj hij og ha e3
      · have := (owns_lt (h2 j hj) e3).2; omega
    · rw [upd_ne _ _ e1] at hgi
      by_cases e2 : j = q
      · subst e2
        rw [upd_at]
        intro e3
        have hgg : og = g := by simpa [Value.ownBlock] using e3
        subst hgg
        rcases ha with ha | ha
        · rw [← hu] at ha; exact h3 i j hi hj hij og hgi ha
        · have := (owns_lt (h2 i hi) hgi).2; omega
      · rw [upd_ne _ _ e2]; exact h3 i j hi hj hij g hgi
/-- Rows that have grown can be read. -/
theorem GRows.rows {W : World} {base B n : Nat} {f : Nat → List Nat} (h : GRows W base B n f) : RowsAt W W.heap.size B n f := by
  obtain ⟨u, h1, h2, h3, h4, h5⟩ := h
  exact ⟨h1.lt, u, h1, fun i hi => owns_row (h2 i hi) (fun g hg => (owns_lt (h2 i hi) hg).2)⟩
/-- Whom each place uses. -/
def adjF (ns : List (List UInt8)) (us : List (List (List UInt8))) (p : Nat) : List Nat := (us.getD p []).filterMap (ixO ns)
def adjK (ns : List (List UInt8)) (us : List (List (List UInt8))) (k : Nat) (p : Nat) : List Nat := if p < k then adjF ns us p else []
theorem adjK_next (ns : List (List UInt8)) (us : List (List (List UInt8))) (k p : Nat) : adjK ns us (k + 1) p = upd (adjK ns us k) k (adjF ns us k) p := by
  unfold adjK upd
  by_cases e : p = k
  · subst e; rw [if_pos (by omega), if_pos rfl]
  · rw [if_neg e]
    by_cases h : p < k
    · show (if p < k + 1 then adjF ns us p else []) = if p < k then adjF ns us p else []
      rw [if_pos h, if_pos (by omega)]
    · show (if p < k + 1 then adjF ns us p else []) = if p < k then adjF ns us p else []
      rw [if_neg h, if_neg (by omega)]
set_option maxHeartbeats 8000000 in
set_option maxRecDepth 100000 in
theorem leaning_c (v : Value) (b : Nat) (ns : List (List UInt8)) (us : List (List (List UInt8))) (hnd : ns.Nodup) (hnl : ns.length ≤ 20000) (hl : us.length ≤ 20000) (ht : total us ≤ 200000) (w : World) (h : UseAt w v us) (hm : PM w b ns) : Calls Try.prog 21 #[.map (some b), v] w fun r W' => ∃ B, r = .returned (.slice (some ⟨B, 0, none⟩) us.length us.length) ∧ w.heap.size ≤ B ∧ RowsAt W' W'.heap.size B us.length (adjF ns us) ∧ Below w.heap.size w W' := by
  obtain ⟨o, cap, hv, hc1, hc2⟩ := h.slice
  have HU : Hid (UseAt w v us) := h
  obtain ⟨n, hn⟩ : ∃ n, us.length = n := ⟨_, rfl⟩
  have HN : Hid (us.length = n ∧ total us ≤ 200000 ∧ ns.Nodup ∧ ns.length ≤ 20000) := ⟨hn, ht, hnd, hnl⟩
  have HP : Hid (PM w b ns ∧ b < w.heap.size) := ⟨hm, hm.lt⟩
  have hni : (n : Int) ≤ 20000 := by omega
  have hmk2 : ∀ W : World, (Instr.makeSlice 22 (.int .i64 (n : Int)) (.int .i64 (n : Int))).run Try.prog W = .ok (.slice (some ⟨W.heap.size, 0, none⟩) n n) (W.alloc (.cells (madeCells #[.slice none 0 0] n) 30)) := fun W => run_make_row' 22 30 (.slice none 0 0) 24 Try.underlying22 infoInts rfl .i64 .i64 n (by omega) (by omega) W
  rw [hn] at hv
  subst hv
  rw [hn]
  clear h hc1 hc2 hl hn hm hnd hnl ht
  have H0 : Hid (GRows (w.alloc (.cells (madeCells #[.slice none 0 0] n) 30)) (w.heap.size + 1) w.heap.size n (adjK ns us 0) ∧ Below w.heap.size w (w.alloc (.cells (madeCells #[.slice none 0 0] n) 30))) := ⟨(GRows.made w n).congr (fun i hi => by unfold adjK; rw [if_neg (by omega)]), below1 w _⟩
  obtain ⟨i0, hi0, hz0, hz1, hz2⟩ := info_parts infoInt
  have HI0 : Hid (Try.prog.info? 3 = some i0 ∧ i0.zero = some (.int .i64 0) ∧ i0.size = 1 ∧ i0.bytes = 8) := ⟨hi0, hz0, hz1, hz2⟩
  clear hi0 hz0 hz1 hz2
  go_enter Try.func21, Try.ntmps21
  go_wp2
  clear hmk2
  go_loopw [17] (fun v8 wr => ∃ k : Nat, v8 = .int .i64 (k : Int) ∧ Hid (k ≤ n ∧ GRows wr (w.heap.size + 1) w.heap.size n (adjK ns us k) ∧ Below w.heap.size w wr)) (fun v _ => n - (intOf v).toNat)
  case atStart => exact ⟨0, rfl, ⟨Nat.zero_le _, H0.out.1, H0.out.2⟩⟩
  case round =>
    clear H0
    obtain ⟨k, rfl, HI⟩ := hrel
    obtain ⟨wo, hwo⟩ : ∃ wo, wo = wr := ⟨_, rfl⟩
    subst hwo
    by_cases hk : k < n
    · have hkl : k < us.length := by rw [HN.out.1]; exact hk
      obtain ⟨g, off, cp, vj, e1, hg, hcj, hst⟩ := HU.out.at hkl
      obtain ⟨oj, cj, rfl, hj1, hj2⟩ := hst.slice
      have hlj := mem_total us k hkl
      have hcj2 := (HI.out.2.2.cell (p := ⟨g, off + k, none⟩) hg).trans hcj
      obtain ⟨m, hm⟩ : ∃ m, us[k].length = m := ⟨_, rfl⟩
      have HM : Hid (us[k].length = m ∧ k < n ∧ us.getD k [] = us[k] ∧ m ≤ 200000) := ⟨hm, hk, by rw [List.getD_eq_getElem?_getD, List.getElem?_eq_getElem hkl]; rfl, by have := HN.out.2.1; omega⟩
      rw [hm] at hcj2 hlj
      have HSt : Hid (StrAt w (.slice oj m cj) us[k]) := by rw [hm] at hst; exact hst
      obtain ⟨rfl, -⟩ : o = some ⟨g, off, none⟩ ∧ True := by cases e1; exact ⟨rfl, trivial⟩
      have hki : (k : Int) < (n : Int) := by omega
      have hmi : (m : Int) ≤ 200000 := by have := HN.out.2; omega
      have hgw : g < wo.heap.size := Nat.lt_of_lt_of_le hg HI.out.2.2.size
      generalize us[k] = uk at HM HSt
      clear hst hm hk hlj e1 hj1 hj2 hcj hkl
      go_wp2
      go_loopw [24] (fun v8 wr => ∃ j : Nat, v8 = .int .i64 (j : Int) ∧ Hid (j ≤ m ∧ GRows wr (w.heap.size + 1) w.heap.size n (upd (adjK ns us k) k ((uk.take j).filterMap (ixO ns))) ∧ Below w.heap.size w wr)) (fun v _ => m - (intOf v).toNat)
      case atStart => exact ⟨0, rfl, ⟨Nat.zero_le _, HI.out.2.1.congr (fun i hi => by unfold upd; by_cases e : i = k <;> simp [e, adjK]), HI.out.2.2⟩⟩
      case round =>
        obtain ⟨j, rfl, HJ⟩ := hrel
        by_cases hj : j < m
        · have hjl : j < uk.length := by rw [HM.out.1]; exact hj
          obtain ⟨g2, off2, cp2, e2, hg2, hc2, hs2⟩ := HSt.out.at hjl
          have hc3 := (HJ.out.2.2.cell (p := ⟨g2, off2 + j, none⟩) hg2).trans hc2
          have hpm : PM wr b ns := HP.out.1.same (HJ.out.2.2.block b HP.out.2)
          have HT : Hid (uk.take (j + 1) = uk.take j ++ [uk[j]]) := List.take_succ_eq_append_getElem hjl
          have hlk := hpm.look HN.out.2.2.1 uk[j] hs2
          obtain ⟨rfl, -⟩ : oj = some ⟨g2, off2, none⟩ ∧ True := by cases e2; exact ⟨rfl, trivial⟩
          have hji : (j : Int) < (m : Int) := by omega
          have hg2w : g2 < wr.heap.size := Nat.lt_of_lt_of_le hg2 HJ.out.2.2.size
          have HJm : Hid (j < m) := hj
          have HMs : Hid (bs uk[j] = bs uk[j]) := rfl
          obtain ⟨x, hx⟩ : ∃ x, uk[j] = x := ⟨_, rfl⟩
          rw [hx] at hlk hc3
          have HX : Hid (uk.take (j + 1) = uk.take j ++ [x]) := by show _ = _; rw [← hx]; exact HT.out
          clear hc2 hs2 e2 hpm hj hx HT HMs hjl
          rcases hlk with ⟨p, hp, hpl, hlk⟩ | ⟨hp, hlk⟩
          · have hkn : k < n := HM.out.2.1
            obtain ⟨orow, crow, r1, r2, r3, r4, r5⟩ := HJ.out.2.1.at hkn
            have HR : Hid (wr.cell? ⟨w.heap.size, k, none⟩ = some (.slice orow (upd (adjK ns us k) k ((uk.take j).filterMap (ixO ns)) k).length crow)) := r1
            have hfm : ((uk.take j).filterMap (ixO ns)).length ≤ m := by
              have h1 := List.length_filterMap_le (ixO ns) (uk.take j)
              have h2 := List.length_take_le j uk
              have := HJ.out.1
              omega
            rw [upd_at] at r1 r2 r5
            obtain ⟨F, hF⟩ : ∃ F, ((uk.take j).filterMap (ixO ns)).length = F := ⟨_, rfl⟩
            rw [hF] at r1 r2 r5 hfm
            have HF : Hid (((uk.take j).filterMap (ixO ns)).length = F) := hF
            have HO : Hid (wr.ownsRow (w.heap.size + 1) 3 1 (.slice orow F crow) F (((uk.take j).filterMap (ixO ns)).map nv)) := r2
            have HO5 : Hid (∀ g, (Value.slice orow F crow).ownBlock = some g → w.heap.size + 1 ≤ g) := r5
            have hFi : (F : Int) ≤ 200000 := by have := HM.out.2.2.2; omega
            have hFn : F ≤ 200000 := by omega
            have HPx : Hid (ixO ns x = some p) := hp
            clear r2 r5 hF hfm hp
            go_wp2_with (at_builtin; refine wpList_append_lies _ rfl _ _ 30 rfl (w.heap.size + 1) 3 i0 (.int .i64 0) 1 8 Try.underlying30 HI0.out.1 HI0.out.2.1 HI0.out.2.2.1 HI0.out.2.2.2 rfl (by decide) _ _ _ rfl (HO.out.alloc _) ⟨wr.heap.size, 0, none⟩ 1 1 [.int .i64 (p : Int)] rfl rfl (cell_one_new _ _ _) (by simp [Value.oneCell']) (by decide) (by unfold maxLen; omega) (by omega) (by simp; omega) (wr.heap.size + 1) (by simp) ?_; intro o8 c8 w8 hown8 hgrow8 hat8 hlt8; have H8 : Hid ((wr.alloc (.cells #[.int .i64 (p : Int)] 3)).grownBy w8 (Value.slice orow F crow).ownBlock ∧ w8.ownsRow (w.heap.size + 1) 3 1 (.slice (some ⟨o8, 0, none⟩) (F + 1) c8) (F + 1) (((uk.take j).filterMap (ixO ns)).map nv ++ [.int .i64 (p : Int)]) ∧ ((Value.slice orow F crow).ownBlock = some o8 ∨ o8 = wr.heap.size + 1)) := ⟨hgrow8, hown8, hat8⟩; have hkk : w8.heap[w.heap.size]? = wr.heap[w.heap.size]? := (grown_block hgrow8 (by simp; omega) (fun e => by have := HO5.out _ e; omega)).trans (Below.heap_alloc wr _ _ r4); have x8 : w8.cell? ⟨w.heap.size, k, none⟩ = some (.slice orow F crow) := (World.cell?_of_block (a := ⟨w.heap.size, k, none⟩) hkk).trans r1; have y8 : w8.frozen? ⟨w.heap.size, k, none⟩ = false := (World.frozen?_of_block (a := ⟨w.heap.size, k, none⟩) hkk).trans r3; have z8 : w.heap.size < w8.heap.size := (by have := hgrow8.size; simp at this; omega); clear hown8 hgrow8 hat8 hlt8 hkk)
            refine ⟨⟨j + 1, by congr 1, ⟨HJm.out, ?_, ?_⟩⟩, ?_⟩
            · obtain ⟨h1, h2, h3⟩ := H8.out
              have hk := HM.out.2.1
              have hf : upd (adjK ns us k) k ((uk.take j).filterMap (ixO ns)) k = (uk.take j).filterMap (ixO ns) := upd_at _ _ _
              have hp := HJ.out.2.1.push (q := k) (x := p) (o := orow) (cap := crow) (og := o8) (oc := c8) (W' := w8) hk HR.out (by rw [hf, HF.out]; exact h1) (by rw [hf, HF.out]; exact h2) (by rw [hf, HF.out]; exact h3)
              rw [hf, HF.out] at hp
              refine hp.congr (fun i hi => ?_)
              unfold upd
              by_cases e : i = k
              · simp only [e, if_true]
                rw [HX.out, List.filterMap_append]
                congr 1
                simp [HPx.out]
              · simp only [e, if_false]
            · exact ((HJ.out.2.2.alloc HJ.out.2.2.size _).grown H8.out.1 (by have := HJ.out.2.2.size; simp; omega) (fun g hg => by have := HO5.out g hg; omega)).setCell (p := ⟨w.heap.size, k, none⟩) (Nat.le_refl _) _
            · show m - ((j : Int) + 1).toNat < m - ((j : Int)).toNat
              have := HJm.out; omega
          · have HPx : Hid (ixO ns x = none) := hp
            clear hp
            go_wp2
            refine ⟨⟨j + 1, by congr 1, ⟨HJm.out, ?_, HJ.out.2.2⟩⟩, ?_⟩
            · refine HJ.out.2.1.congr (fun i hi => ?_)
              unfold upd
              by_cases e : i = k
              · simp only [e, if_true]
                rw [HX.out, List.filterMap_append]
                simp [HPx.out]
              · simp only [e, if_false]
            · show m - ((j : Int) + 1).toNat < m - ((j : Int)).toNat
              have := HJm.out; omega
        · have hji : ¬ (j : Int) < (m : Int) := by omega
          have HJe : Hid (uk.take j = uk) := by show _ = _; exact List.take_of_length_le (by have := HM.out.1; omega)
          clear hj
          go_wp2
          refine ⟨⟨k + 1, by congr 1, ⟨HM.out.2.1, ?_, HJ.out.2.2⟩⟩, ?_⟩
          · have h1 := HJ.out.2.1
            rw [HJe.out] at h1
            refine h1.congr (fun i hi => ?_)
            rw [adjK_next]
            unfold adjF
            rw [HM.out.2.2.1]
          · show n - ((k : Int) + 1).toNat < n - ((k : Int)).toNat
            have := HM.out.2.1; omega
    · have hki : ¬ (k : Int) < (n : Int) := by omega
      have HK : Hid (n ≤ k) := by show _ ≤ _; omega
      clear hk
      go_wp2
      go_ret
      exact ⟨w.heap.size, rfl, Nat.le_refl _, (HI.out.2.1.congr (fun i hi => by unfold adjK; rw [if_pos (by have := HK.out; omega)])).rows, HI.out.2.2⟩
end Go.Proofs.Ytkkpkcigflikkaa
