/-
  The document's Of, where nothing is wrong, by a contract.
-/
import Derived.Test.YtkkpkcigflikkaaQf
namespace Go.Proofs.Ytkkpkcigflikkaa
open Go.RowKit Go.Shelf Go.Maps G
set_option linter.unusedVariables false

/-- What Of answers. -/
def ROf (w : World) (ll : List (List Nat)) (r : Ending) (W' : World) : Prop := ∃ av, r = .returned (.tuple #[av, .int .i64 0]) ∧ IntsAt W' av ll ∧ Below w.heap.size w W'
set_option maxHeartbeats 32000000 in
set_option maxRecDepth 100000 in
theorem rOf_c (v u : Value) (ns : List (List UInt8)) (us : List (List (List UInt8))) (low : Nat → Nat) (grp : Nat → List Nat) (S : List Nat) (hnl : ns.length ≤ 20000) (hul : us.length ≤ 20000) (ht : total us ≤ 200000) (hlu : ns.length = us.length) (hnd : ns.Nodup) (hP : Parted ns.length (adjF ns us) low grp) (hO : Ordered ns.length (adjF ns us) low S) (w : World) (hv : StrAt w v ns) (hu : UseAt w u us) : Calls Try.prog 10 #[v, u] w fun r W' => ROf w (S.map grp) r W' := by
  have HV : Hid (StrAt w v ns ∧ UseAt w u us ∧ ns.length ≤ 20000 ∧ us.length ≤ 20000 ∧ total us ≤ 200000) := ⟨hv, hu, hnl, hul, ht⟩
  obtain ⟨o, cap, ev, hc1, hc2⟩ := hv.slice
  obtain ⟨o2, cap2, eu, hd1, hd2⟩ := hu.slice
  obtain ⟨n, hn⟩ : ∃ n, ns.length = n := ⟨_, rfl⟩
  obtain ⟨m, hm⟩ : ∃ m, us.length = m := ⟨_, rfl⟩
  have HL : Hid (ns.length = n ∧ us.length = m) := ⟨hn, hm⟩
  rw [hn] at ev
  rw [hm] at eu
  subst ev eu
  have hni : (n : Int) ≤ 20000 := by omega
  have hmi : (m : Int) ≤ 20000 := by omega
  have HPl : Hid (∀ (X : World) (s : List UInt8), Below w.heap.size w X → Calls Try.prog 25 #[.slice o n cap, .string (bs s)] X fun r W' => r = .returned (.int .i64 (ixI ns s)) ∧ W' = X) := fun X s hX => rplace_c _ ns s (by have := HV.out.2.2.1; omega) X (HV.out.1.below hX (Nat.le_refl _))
  clear hv hu hc1 hc2 hd1 hd2 hn hm hnl hul ht
  have hmn : m = n := by have := HL.out; omega
  subst hmn
  have HP : Hid (ns.Nodup ∧ Parted m (adjF ns us) low grp ∧ Ordered m (adjF ns us) low S) := ⟨hnd, by rw [← HL.out.1]; exact hP, by rw [← HL.out.1]; exact hO⟩
  have hmm : ((m : Int) != (m : Int)) = false := by simp
  have hmk2 : ∀ W : World, (Instr.makeSlice 22 (.int .i64 (m : Int)) (.int .i64 (m : Int))).run Try.prog W = .ok (.slice (some ⟨W.heap.size, 0, none⟩) m m) (W.alloc (.cells (madeCells #[.slice none 0 0] m) 30)) := fun W => run_make_row' 22 30 (.slice none 0 0) 24 Try.underlying22 infoInts rfl .i64 .i64 m (by omega) (by omega) W
  have hmk3 : ∀ W : World, (Instr.makeSlice 48 (.int .i64 (m : Int)) (.int .i64 (m : Int))).run Try.prog W = .ok (.slice (some ⟨W.heap.size, 0, none⟩) m m) (W.alloc (.cells (madeCells #[.slice none 0 0] m) 49)) := fun W => run_make_row' 48 49 (.slice none 0 0) 24 Try.underlying48 infoBools rfl .i64 .i64 m (by omega) (by omega) W
  have hmk4 : ∀ W : World, (Instr.makeSlice 49 (.int .i64 (m : Int)) (.int .i64 (m : Int))).run Try.prog W = .ok (.slice (some ⟨W.heap.size, 0, none⟩) m m) (W.alloc (.cells (madeCells #[.bool false] m) 4)) := fun W => run_make_row' 49 4 (.bool false) 1 Try.underlying49 infoBool rfl .i64 .i64 m (by omega) (by omega) W
  have HMK : Hid ((∀ W : World, (Instr.makeSlice 22 (.int .i64 (m : Int)) (.int .i64 (m : Int))).run Try.prog W = .ok (.slice (some ⟨W.heap.size, 0, none⟩) m m) (W.alloc (.cells (madeCells #[.slice none 0 0] m) 30))) ∧ (∀ W : World, (Instr.makeSlice 48 (.int .i64 (m : Int)) (.int .i64 (m : Int))).run Try.prog W = .ok (.slice (some ⟨W.heap.size, 0, none⟩) m m) (W.alloc (.cells (madeCells #[.slice none 0 0] m) 49))) ∧ (∀ W : World, (Instr.makeSlice 49 (.int .i64 (m : Int)) (.int .i64 (m : Int))).run Try.prog W = .ok (.slice (some ⟨W.heap.size, 0, none⟩) m m) (W.alloc (.cells (madeCells #[.bool false] m) 4)))) := ⟨hmk2, hmk3, hmk4⟩
  have H0 : Hid (GRows (w.alloc (.cells (madeCells #[.slice none 0 0] m) 30)) (w.heap.size + 1) w.heap.size m (fun _ => []) ∧ Below w.heap.size w (w.alloc (.cells (madeCells #[.slice none 0 0] m) 30))) := ⟨GRows.made w m, below1 w _⟩
  obtain ⟨i0, hi0, hz0, hz1, hz2⟩ := info_parts infoInt
  have HI0 : Hid (Try.prog.info? 3 = some i0 ∧ i0.zero = some (.int .i64 0) ∧ i0.size = 1 ∧ i0.bytes = 8) := ⟨hi0, hz0, hz1, hz2⟩
  clear hi0 hz0 hz1 hz2
  obtain ⟨i1, hi0, hz0, hz1, hz2⟩ := info_parts infoInts
  have HI1 : Hid (Try.prog.info? 30 = some i1 ∧ i1.zero = some (.slice none 0 0) ∧ i1.size = 1 ∧ i1.bytes = 24) := ⟨hi0, hz0, hz1, hz2⟩
  clear hi0 hz0 hz1 hz2 hmk2 hmk3 hmk4 hlu hnd hP hO hmi
  go_enter Try.func10, Try.ntmps10
  go_wp2
  go_loopw [7, 8] (fun v7 v8 wr => ∃ t k : Nat, v7 = .int .i64 (t : Int) ∧ v8 = .int .i64 (k : Int) ∧ wr = w ∧ Hid (k ≤ m ∧ t = total (us.take k))) (fun _ v _ => m - (intOf v).toNat)
  case atStart => exact ⟨0, 0, rfl, rfl, rfl, ⟨Nat.zero_le _, rfl⟩⟩
  case round =>
    obtain ⟨t, k, rfl, rfl, hwr, HI⟩ := hrel
    have hwr := hwr.symm
    subst hwr
    have hti : (t : Int) ≤ 200000 := by have h1 := HI.out.2; have h2 := total_le us k; have h3 := HV.out.2.2.2.2; omega
    by_cases hk : k < m
    · have hkl : k < us.length := by rw [HL.out.2]; exact hk
      have hki : (k : Int) < (m : Int) := by omega
      obtain ⟨g, off, cp, vj, e1, hg, hcj, hst⟩ := HV.out.2.1.at hkl
      obtain ⟨oj, cj, rfl, hj1, hj2⟩ := hst.slice
      have hlj := mem_total us k hkl
      obtain ⟨p, hp⟩ : ∃ p, us[k].length = p := ⟨_, rfl⟩
      have HM : Hid (total (us.take (k + 1)) = total (us.take k) + p ∧ k < m) := ⟨by rw [← hp]; exact total_take us k hkl, hk⟩
      rw [hp] at hcj hlj
      obtain ⟨rfl, -⟩ : o2 = some ⟨g, off, none⟩ ∧ True := by cases e1; exact ⟨rfl, trivial⟩
      have hpi : (p : Int) ≤ 200000 := by have := HV.out.2.2.2.2; omega
      clear hst hp hk hlj e1 hj1 hj2
      go_wp2
      refine ⟨⟨t + p, k + 1, by congr 1, by congr 1, trivial, ⟨HM.out.2, by rw [HM.out.1, HI.out.2]⟩⟩, ?_⟩
      show m - ((k : Int) + 1).toNat < m - ((k : Int)).toNat
      have := HM.out.2; omega
    · have hki : ¬ (k : Int) < (m : Int) := by omega
      clear hk HI
      have hng : ¬ (m : Int) > 20000 := by omega
      have htg : ¬ (t : Int) > 200000 := by omega
      go_wp2
      go_loopw [9] (fun v9 wr => ∃ i : Nat, v9 = .int .i64 (i : Int) ∧ wr = w ∧ Hid (i ≤ m)) (fun v _ => m - (intOf v).toNat)
      case atStart => exact ⟨0, rfl, rfl, Nat.zero_le _⟩
      case round =>
        obtain ⟨i, rfl, hwr, HI⟩ := hrel
        have hwr := hwr.symm
        subst hwr
        by_cases hi : i < m
        · have hii : (i : Int) < (m : Int) := by omega
          have hil : i < ns.length := by rw [HL.out.1]; exact hi
          obtain ⟨g, off, cp, e1, hg, hcj, -⟩ := HV.out.1.at hil
          obtain ⟨rfl, -⟩ : o = some ⟨g, off, none⟩ ∧ True := by cases e1; exact ⟨rfl, trivial⟩
          have hC := HPl.out w ns[i] (Below.refl _ _)
          rw [ixI_some (ix_of_nodup HP.out.1 hil)] at hC
          have HQ : Hid (i < m) := hi
          have HC : Hid (Calls Try.prog 25 #[.slice (some ⟨g, off, none⟩) m cap, .string (bs ns[i])] w fun r W' => r = .returned (.int .i64 (i : Int)) ∧ W' = w) := hC
          obtain ⟨x, hx⟩ : ∃ x, bs ns[i] = x := ⟨_, rfl⟩
          rw [hx] at hcj HC
          clear hC hi e1 hx
          go_wp2_with (go_at_call 25; fail)
          refine HC.out.mono ?_
          rintro e w3 ⟨rfl, hw3⟩
          have hw4 := hw3.symm
          subst hw4
          have he : ((i : Int) != (i : Int)) = false := by simp
          clear hw3 HC
          go_wp2
          refine ⟨⟨i + 1, by congr 1, trivial, HQ.out⟩, ?_⟩
          show m - ((i : Int) + 1).toNat < m - ((i : Int)).toNat
          have := HQ.out; omega
        · have hii : ¬ (i : Int) < (m : Int) := by omega
          have hmk := HMK.out.1
          clear hi HI
          go_wp2
          clear hmk
          go_loopw [11] (fun v8 wr => ∃ k : Nat, v8 = .int .i64 (k : Int) ∧ Hid (k ≤ m ∧ GRows wr (w.heap.size + 1) w.heap.size m (adjK ns us k) ∧ Below w.heap.size w wr)) (fun v _ => m - (intOf v).toNat)
          case atStart => exact ⟨0, rfl, ⟨Nat.zero_le _, H0.out.1, H0.out.2⟩⟩
          case round =>
            clear H0
            obtain ⟨k, rfl, HI⟩ := hrel
            obtain ⟨wo, hwo⟩ : ∃ wo, wo = wr := ⟨_, rfl⟩
            subst hwo
            by_cases hk : k < m
            · have hkl : k < us.length := by rw [HL.out.2]; exact hk
              obtain ⟨g, off, cp, vj, e1, hg, hcj, hst⟩ := HV.out.2.1.at hkl
              obtain ⟨oj, cj, rfl, hj1, hj2⟩ := hst.slice
              have hlj := mem_total us k hkl
              obtain ⟨p, hp⟩ : ∃ p, us[k].length = p := ⟨_, rfl⟩
              have HM : Hid (us[k].length = p ∧ k < m ∧ us.getD k [] = us[k] ∧ p ≤ 200000) := ⟨hp, hk, by rw [List.getD_eq_getElem?_getD, List.getElem?_eq_getElem hkl]; rfl, by have := HV.out.2.2.2.2; omega⟩
              rw [hp] at hcj hlj
              have HSt : Hid (StrAt w (.slice oj p cj) us[k] ∧ g < w.heap.size ∧ w.cell? ⟨g, off + k, none⟩ = some (.slice oj p cj)) := by rw [hp] at hst; exact ⟨hst, hg, hcj⟩
              obtain ⟨rfl, -⟩ : o2 = some ⟨g, off, none⟩ ∧ True := by cases e1; exact ⟨rfl, trivial⟩
              have hki : (k : Int) < (m : Int) := by omega
              have hpi : (p : Int) ≤ 200000 := by have := HM.out.2; omega
              generalize us[k] = uk at HM HSt
              clear hst hp hk hlj e1 hj1 hj2 hcj hkl hg
              go_wp2
              go_loopw [12] (fun v8 wr => ∃ j : Nat, v8 = .int .i64 (j : Int) ∧ Hid (j ≤ p ∧ GRows wr (w.heap.size + 1) w.heap.size m (upd (adjK ns us k) k ((uk.take j).filterMap (ixO ns))) ∧ Below w.heap.size w wr)) (fun v _ => p - (intOf v).toNat)
              case atStart => exact ⟨0, rfl, ⟨Nat.zero_le _, HI.out.2.1.congr (fun i hi => by unfold upd; by_cases e : i = k <;> simp [e, adjK]), HI.out.2.2⟩⟩
              case round =>
                clear HI
                obtain ⟨j, rfl, HJ⟩ := hrel
                have hcj2 := (HJ.out.2.2.cell (p := ⟨g, off + k, none⟩) HSt.out.2.1).trans HSt.out.2.2
                have hgw : g < wr.heap.size := Nat.lt_of_lt_of_le HSt.out.2.1 HJ.out.2.2.size
                by_cases hj : j < p
                · have hjl : j < uk.length := by rw [HM.out.1]; exact hj
                  obtain ⟨g2, off2, cp2, e2, hg2, hc2, hs2⟩ := HSt.out.1.at hjl
                  have hc3 := (HJ.out.2.2.cell (p := ⟨g2, off2 + j, none⟩) hg2).trans hc2
                  obtain ⟨rfl, -⟩ : oj = some ⟨g2, off2, none⟩ ∧ True := by cases e2; exact ⟨rfl, trivial⟩
                  have hji : (j : Int) < (p : Int) := by omega
                  have hg2w : g2 < wr.heap.size := Nat.lt_of_lt_of_le hg2 HJ.out.2.2.size
                  have HJm : Hid (j < p) := hj
                  obtain ⟨x, hx⟩ : ∃ x, uk[j] = x := ⟨_, rfl⟩
                  rw [hx] at hc3
                  have HX : Hid (uk.take (j + 1) = uk.take j ++ [x]) := by show _ = _; rw [← hx]; exact List.take_succ_eq_append_getElem hjl
                  have HC : Hid (Calls Try.prog 25 #[.slice o m cap, .string (bs x)] wr fun r W' => r = .returned (.int .i64 (ixI ns x)) ∧ W' = wr) := HPl.out wr x HJ.out.2.2
                  clear hc2 hs2 e2 hj hx hjl hg2
                  go_wp2_with (go_at_call 25; fail)
                  refine HC.out.mono ?_
                  rintro e w3 ⟨rfl, hw3⟩
                  have hw4 := hw3.symm
                  subst hw4
                  clear hw3 HC hcj2 hc3
                  cases hp : ixO ns x with
                  | some q =>
                    have hqn : q < ns.length := ixO_lt hp
                    have hqi : (q : Int) < (m : Int) := by have := HL.out.1; omega
                    have HPx : Hid (ixO ns x = some q) := hp
                    rw [ixI_some hp]
                    have hkn : k < m := HM.out.2.1
                    obtain ⟨orow, crow, r1, r2, r3, r4, r5⟩ := HJ.out.2.1.at hkn
                    have HR : Hid (wr.cell? ⟨w.heap.size, k, none⟩ = some (.slice orow (upd (adjK ns us k) k ((uk.take j).filterMap (ixO ns)) k).length crow)) := r1
                    have hfm : ((uk.take j).filterMap (ixO ns)).length ≤ p := by
                      have h1 := List.length_filterMap_le (ixO ns) (uk.take j)
                      have h2 := List.length_take_le j uk
                      have := HJ.out.1
                      omega
                    rw [upd_at] at r1 r2 r5
                    obtain ⟨F, hF⟩ : ∃ F, ((uk.take j).filterMap (ixO ns)).length = F := ⟨_, rfl⟩
                    rw [hF] at r1 r2 r5 hfm
                    have HF : Hid (((uk.take j).filterMap (ixO ns)).length = F) := hF
                    have HO : Hid (wr.ownsRow (w.heap.size + 1) 3 1 (.slice orow F crow) F (((uk.take j).filterMap (ixO ns)).map nv)) := r2
                    have HO5 : Hid (∀ g, (Value.slice orow F crow).ownBlock = some g → w.heap.size + 1 ≤ g) := r5
                    have hFi : (F : Int) ≤ 200000 := by have := HM.out.2.2.2; omega
                    have hFn : F ≤ 200000 := by omega
                    clear r2 r5 hF hfm hp hqn
                    go_wp2_with (at_builtin; refine wpList_append_lies _ rfl _ _ 30 rfl (w.heap.size + 1) 3 i0 (.int .i64 0) 1 8 Try.underlying30 HI0.out.1 HI0.out.2.1 HI0.out.2.2.1 HI0.out.2.2.2 rfl (by decide) _ _ _ rfl (HO.out.alloc _) ⟨wr.heap.size, 0, none⟩ 1 1 [.int .i64 (q : Int)] rfl rfl (cell_one_new _ _ _) (by simp [Value.oneCell']) (by decide) (by unfold maxLen; omega) (by omega) (by simp; omega) (wr.heap.size + 1) (by simp) ?_; intro o8 c8 w8 hown8 hgrow8 hat8 hlt8; have H8 : Hid ((wr.alloc (.cells #[.int .i64 (q : Int)] 3)).grownBy w8 (Value.slice orow F crow).ownBlock ∧ w8.ownsRow (w.heap.size + 1) 3 1 (.slice (some ⟨o8, 0, none⟩) (F + 1) c8) (F + 1) (((uk.take j).filterMap (ixO ns)).map nv ++ [.int .i64 (q : Int)]) ∧ ((Value.slice orow F crow).ownBlock = some o8 ∨ o8 = wr.heap.size + 1)) := ⟨hgrow8, hown8, hat8⟩; have hkk : w8.heap[w.heap.size]? = wr.heap[w.heap.size]? := (grown_block hgrow8 (by simp; omega) (fun e => by have := HO5.out _ e; omega)).trans (Below.heap_alloc wr _ _ r4); have x8 : w8.cell? ⟨w.heap.size, k, none⟩ = some (.slice orow F crow) := (World.cell?_of_block (a := ⟨w.heap.size, k, none⟩) hkk).trans r1; have y8 : w8.frozen? ⟨w.heap.size, k, none⟩ = false := (World.frozen?_of_block (a := ⟨w.heap.size, k, none⟩) hkk).trans r3; have z8 : w.heap.size < w8.heap.size := (by have := hgrow8.size; simp at this; omega); clear hown8 hgrow8 hat8 hlt8 hkk)
                    refine ⟨⟨j + 1, by congr 1, ⟨HJm.out, ?_, ?_⟩⟩, ?_⟩
                    · obtain ⟨h1, h2, h3⟩ := H8.out
                      have hk := HM.out.2.1
                      have hf : upd (adjK ns us k) k ((uk.take j).filterMap (ixO ns)) k = (uk.take j).filterMap (ixO ns) := upd_at _ _ _
                      have hp := HJ.out.2.1.push (q := k) (x := q) (o := orow) (cap := crow) (og := o8) (oc := c8) (W' := w8) hk HR.out (by rw [hf, HF.out]; exact h1) (by rw [hf, HF.out]; exact h2) (by rw [hf, HF.out]; exact h3)
                      rw [hf, HF.out] at hp
                      refine hp.congr (fun i hi => ?_)
                      unfold upd
                      by_cases e : i = k
                      · simp only [e, if_true]
                        rw [HX.out, List.filterMap_append]
                        congr 1
                        simp [HPx.out]
                      · simp only [e, if_false]
                    · exact ((HJ.out.2.2.alloc HJ.out.2.2.size _).grown H8.out.1 (by have := HJ.out.2.2.size; simp; omega) (fun g hg => by have := HO5.out g hg; omega)).setCell (p := ⟨w.heap.size, k, none⟩) (Nat.le_refl _) _
                    · show p - ((j : Int) + 1).toNat < p - ((j : Int)).toNat
                      have := HJm.out; omega
                  | none =>
                    have HPx : Hid (ixO ns x = none) := hp
                    rw [ixI_none hp]
                    clear hp
                    go_wp2
                    refine ⟨⟨j + 1, by congr 1, ⟨HJm.out, ?_, HJ.out.2.2⟩⟩, ?_⟩
                    · refine HJ.out.2.1.congr (fun i hi => ?_)
                      unfold upd
                      by_cases e : i = k
                      · simp only [e, if_true]
                        rw [HX.out, List.filterMap_append]
                        simp [HPx.out]
                      · simp only [e, if_false]
                    · show p - ((j : Int) + 1).toNat < p - ((j : Int)).toNat
                      have := HJm.out; omega
                · have hji : ¬ (j : Int) < (p : Int) := by omega
                  have HJe : Hid (uk.take j = uk) := by show _ = _; exact List.take_of_length_le (by have := HM.out.1; omega)
                  clear hj
                  go_wp2
                  refine ⟨⟨k + 1, by congr 1, ⟨HM.out.2.1, ?_, HJ.out.2.2⟩⟩, ?_⟩
                  · have h1 := HJ.out.2.1
                    rw [HJe.out] at h1
                    refine h1.congr (fun i hi => ?_)
                    rw [adjK_next]
                    unfold adjF
                    rw [HM.out.2.2.1]
                  · show m - ((k : Int) + 1).toNat < m - ((k : Int)).toNat
                    have := HM.out.2.1; omega
            · have hki : ¬ (k : Int) < (m : Int) := by omega
              have HR : Hid (RowsAt wo wo.heap.size w.heap.size m (adjF ns us) ∧ Below w.heap.size w wo) := ⟨(HI.out.2.1.congr (fun i hi => by unfold adjK; rw [if_pos (by omega)])).rows, HI.out.2.2⟩
              have HAd : Hid ((∀ x, x < m → (adjF ns us x).length ≤ 200000) ∧ (∀ x, x < m → ∀ y ∈ adjF ns us x, y < m) ∧ m ≤ 20000) := ⟨fun x _ => Nat.le_trans (adjF_len ns us x) HV.out.2.2.2.2, fun x _ y hy => by have := adjF_lt ns us x y hy; have := HL.out.1; omega, by omega⟩
              have hmk := HMK.out.2.1
              have H5 : Hid (LnAt (wo.alloc (.cells (madeCells #[.slice none 0 0] m) 49)) wo.heap.size m 0 (fun _ => 0) (fun _ _ => false) ∧ Below wo.heap.size wo (wo.alloc (.cells (madeCells #[.slice none 0 0] m) 49))) := ⟨⟨⟨_, fb_made wo (.slice none 0 0) m 49, fun i hi => by omega⟩, fun i hi => by omega⟩, below1 wo _⟩
              clear hk HI
              go_wp2
              clear hmk
              go_loopw [15] (fun v15 wr => ∃ k : Nat, v15 = .int .i64 (k : Int) ∧ Hid (k ≤ m ∧ Below wo.heap.size wo wr ∧ ∃ (R : Nat → Nat) (lv : Nat → Nat → Bool), LnAt wr wo.heap.size m k R lv ∧ (∀ i, i < k → wo.heap.size < R i ∧ R i < wr.heap.size) ∧ ∀ i, i < k → ∀ y, y < m → (lv i y = true ↔ Ln (adjF ns us) i y))) (fun v _ => m - (intOf v).toNat)
              case atStart => exact ⟨0, rfl, ⟨Nat.zero_le _, H5.out.2, _, _, H5.out.1, fun i hi => by omega, fun i hi => by omega⟩⟩
              case round =>
                clear H5
                obtain ⟨k, rfl, HI⟩ := hrel
                by_cases hk : k < m
                · have hki : (k : Int) < (m : Int) := by omega
                  obtain ⟨-, hbw, R, lv, q1, q2, q3⟩ := HI.out
                  have HC : Hid (Calls Try.prog 26 #[.slice (some ⟨w.heap.size, 0, none⟩) m m, .int .i64 (k : Int)] wr fun r W' => RrP wr m (adjF ns us) k r W') := rreach_c m wo.heap.size w.heap.size k (adjF ns us) HAd.out.2.2 HAd.out.1 HAd.out.2.1 hk wr (HR.out.1.below hbw (Nat.le_refl _)) hbw.size
                  obtain ⟨⟨uu, hu1, -⟩, -⟩ := id q1
                  have c0 : wr.cell? ⟨wo.heap.size, k, none⟩ = some (uu k) := hu1.cell hk
                  have f0 : wr.frozen? ⟨wo.heap.size, k, none⟩ = false := hu1.frozen k
                  have l0 : wo.heap.size < wr.heap.size := hu1.lt
                  have HK : Hid (k < m ∧ wr.cell? ⟨wo.heap.size, k, none⟩ = some (uu k) ∧ wr.frozen? ⟨wo.heap.size, k, none⟩ = false ∧ wo.heap.size < wr.heap.size) := ⟨hk, c0, f0, l0⟩
                  clear hbw q1 q2 q3 hu1 c0 f0 l0 hk
                  go_wp2_with (go_at_call 26; fail)
                  refine HC.out.mono ?_
                  rintro e w6 ⟨Ob, rfl, p1, p2, p3⟩
                  have H6 : Hid (FB w6 wr.heap.size m (fun i => .bool (Ob i)) 4 ∧ (∀ y, y < m → (Ob y = true ↔ Ln (adjF ns us) k y)) ∧ Below wr.heap.size wr w6) := ⟨p1, p2, p3⟩
                  have c1 : w6.cell? ⟨wo.heap.size, k, none⟩ = some (uu k) := (p3.cell (p := ⟨wo.heap.size, k, none⟩) HK.out.2.2.2).trans HK.out.2.1
                  have f1 : w6.frozen? ⟨wo.heap.size, k, none⟩ = false := (World.frozen?_of_block (a := ⟨wo.heap.size, k, none⟩) (p3.block _ HK.out.2.2.2)).trans HK.out.2.2.1
                  have l1 : wo.heap.size < w6.heap.size := Nat.lt_of_lt_of_le HK.out.2.2.2 p3.size
                  clear p1 p2 p3 HC
                  go_wp2
                  refine ⟨⟨k + 1, by congr 1, ?_⟩, ?_⟩
                  · obtain ⟨-, hbw, R, lv, q1, q2, q3⟩ := HI.out
                    obtain ⟨p1, p2, p3⟩ := H6.out
                    have hlt := HK.out.2.2.2
                    refine ⟨HK.out.1, (hbw.trans (p3.mono hbw.size)).setCell (p := ⟨wo.heap.size, k, none⟩) (Nat.le_refl _) _, upd R k wr.heap.size, _, q1.next (fun i hi => p3.block _ (q2 i hi).2) (p3.block _ hlt) p1 (by omega) (fun i hi => by have := (q2 i hi).2; omega), fun i hi => ?_, fun i hi y hy => ?_⟩
                    · rw [size_set]
                      by_cases e : i = k
                      · subst e; rw [upd_at]; exact ⟨hlt, p1.lt⟩
                      · rw [upd_ne _ _ e]; have := q2 i (by omega); have := p3.size; omega
                    · by_cases e : i = k
                      · subst e; simp only [if_true]; exact p2 y hy
                      · simp only [e, if_false]; exact q3 i (by omega) y hy
                  · show m - ((k : Int) + 1).toNat < m - ((k : Int)).toNat
                    have := HK.out.1; omega
                · have hki : ¬ (k : Int) < (m : Int) := by omega
                  obtain ⟨hkm, hbw, R, lv, q1, q2, q3⟩ := HI.out
                  have hke : m = k := by omega
                  subst hke
                  obtain ⟨w5, hw5⟩ : ∃ w5, w5 = wr := ⟨_, rfl⟩
                  subst hw5
                  have HLn : Hid (LnAt w5 wo.heap.size m m R lv ∧ (∀ i, i < m → R i < w5.heap.size) ∧ (∀ i, i < m → ∀ y, y < m → (lv i y = true ↔ Ln (adjF ns us) i y)) ∧ Below w.heap.size w w5 ∧ wo.heap.size < w5.heap.size) := ⟨q1, fun i hi => (q2 i hi).2, q3, HR.out.2.trans (hbw.mono HR.out.2.size), by obtain ⟨⟨u, h1, _⟩, _⟩ := q1; exact h1.lt⟩
                  have hmk := HMK.out.2.2
                  have H7 : Hid (OfI w5 (w5.alloc (.cells (madeCells #[.bool false] m) 4 )) m w5.heap.size low grp S 0 (.slice none 0 0) []) := ⟨(fb_made w5 (.bool false) m 4).congr (fun j hj => by simp), owns_nil _ _ _ _, rfl, fun j hj => by simp at hj, below1 w5 _⟩
                  clear hk HI hkm hbw q1 q2 q3 HR HMK
                  go_wp2
                  clear hmk
                  go_loopw [16, 18] (fun v16 v18 wr => ∃ (r : Nat) (gvs : List Value), v18 = .int .i64 (stood grp S r : Int) ∧ (∃ o16 c16, v16 = .slice o16 r c16) ∧ Hid (r ≤ S.length ∧ OfI w5 wr m w5.heap.size low grp S r v16 gvs)) (fun _ v _ => m - (intOf v).toNat)
                  case atStart => exact ⟨0, [], rfl, ⟨_, _, rfl⟩, ⟨Nat.zero_le _, H7.out⟩⟩
                  case round =>
                    clear H7
                    obtain ⟨r, gvs, rfl, ⟨o16, c16, rfl⟩, HI⟩ := hrel
                    obtain ⟨w1, hw1⟩ : ∃ w1, w1 = wr := ⟨_, rfl⟩
                    subst hw1
                    obtain ⟨dn, hdn⟩ : ∃ dn, stood grp S r = dn := ⟨_, rfl⟩
                    have HD : Hid (stood grp S r = dn) := hdn
                    rw [hdn]
                    clear hdn
                    by_cases hr : r < S.length
                    · obtain ⟨st1, st2⟩ := stood_lt HP.out.2.1 HP.out.2.2 hr
                      obtain ⟨tn1, tn2, tn3⟩ := turn_at HP.out.2.1 HP.out.2.2 hr
                      obtain ⟨g, hg⟩ : ∃ g, S[r] = g := ⟨_, rfl⟩
                      have HT : Hid (∃ h : r < S.length, S[r] = g) := ⟨hr, hg⟩
                      rw [hg] at st1 st2 tn1 tn2 tn3
                      have HG : Hid (stood grp S r + (grp g).length ≤ m ∧ 0 < (grp g).length ∧ g < m ∧ low g = g ∧ pos low S g = r ∧ r < S.length) := ⟨st1, st2, tn1, tn2, tn3, hr⟩
                      have hdi : (dn : Int) < (m : Int) := by have := HD.out; omega
                      have HRd : Hid (rdB m lv (fun k => decide (pos low S k < r)) g = true ∧ ∀ i, i < m → ¬ pos low S i < r → rdB m lv (fun k => decide (pos low S k < r)) i = true → g ≤ i) := by
                        obtain ⟨h1, h2⟩ := HT.out
                        subst h2
                        exact ⟨turn_ready HP.out.2.1 HP.out.2.2 HAd.out.2.1 HLn.out.2.2.1 h1, fun i hi hp h => turn_first HP.out.2.1 HP.out.2.2 HAd.out.2.1 HLn.out.2.2.1 h1 hi hp h⟩
                      have HGr : Hid (∀ k, k < m → (k == g || (lv g k && lv k g)) = decide (k ∈ grp g)) := by
                        obtain ⟨h1, h2⟩ := HT.out
                        subst h2
                        exact fun k hk => turn_group HP.out.2.1 HP.out.2.2 HLn.out.2.2.1 h1 hk
                      have HL1 : Hid (LnAt w1 wo.heap.size m m R lv ∧ w5.heap.size < w1.heap.size) := ⟨HLn.out.1.same (HI.out.2.bl.block _ HLn.out.2.2.2.2) (fun i hi => HI.out.2.bl.block _ (HLn.out.2.1 i hi)), HI.out.2.st.lt⟩
                      have HRy : Hid (∀ i, i < m → Calls Try.prog 27 #[.slice (some ⟨wo.heap.size, 0, none⟩) m m, .slice (some ⟨w5.heap.size, 0, none⟩) m m, .int .i64 (i : Int)] w1 fun r' W' => r' = .returned (.bool (rdB m lv (fun k => decide (pos low S k < r)) i)) ∧ W' = w1) := fun i hi => ready_c wo.heap.size w5.heap.size m i R lv _ HAd.out.2.2 hi w1 HL1.out.1 HI.out.2.st
                      have hgi : (g : Int) < (m : Int) := by omega
                      clear st1 st2 tn1 tn2 tn3 hg hr
                      go_wp2
                      go_loopw [16, 18, 19] (fun v16 v18 v19 wr => ∃ i : Nat, v19 = .int .i64 (i : Int) ∧ v16 = .slice o16 r c16 ∧ v18 = .int .i64 (dn : Int) ∧ wr = w1 ∧ Hid (i ≤ g)) (fun _ _ v _ => m - (intOf v).toNat)
                      case atStart => exact ⟨0, rfl, rfl, rfl, rfl, Nat.zero_le _⟩
                      case round =>
                        obtain ⟨i, rfl, rfl, rfl, hwr, HIi⟩ := hrel
                        have hwr := hwr.symm
                        subst hwr
                        have him : i < m := by have := HIi.out; have := HG.out.2.2.1; omega
                        have hii : (i : Int) < (m : Int) := by omega
                        have cst : w1.cell? ⟨w5.heap.size, i, none⟩ = some (.bool (decide (pos low S i < r))) := HI.out.2.st.cell him
                        have lst := HI.out.2.st.lt
                        have HC := HRy.out i him
                        have HM : Hid (i < m) := him
                        clear him
                        by_cases hig : i = g
                        · subst hig
                          have hp0 : decide (pos low S i < r) = false := by have := HG.out.2.2.2.2.1; simp; omega
                          rw [hp0] at cst
                          rw [HRd.out.1] at HC
                          have HC2 : Hid (Calls Try.prog 27 #[.slice (some ⟨wo.heap.size, 0, none⟩) m m, .slice (some ⟨w5.heap.size, 0, none⟩) m m, .int .i64 (i : Int)] w1 fun r' W' => r' = .returned (.bool true) ∧ W' = w1) := HC
                          clear HC hp0 HRy
                          go_wp2_with (go_at_call 27; fail)
                          refine HC2.out.mono ?_
                          rintro e w9 ⟨rfl, hw9⟩
                          have hw10 := hw9.symm
                          subst hw10
                          clear hw9 HC2 cst
                          have HJ0 : Hid (OfJ w1 w1 m w5.heap.size low (grp i) S r 0 (.slice none 0 0)) := ⟨HI.out.2.st.congr (fun x hx => by simp), owns_nil _ _ _ _, Nat.le_refl _, fun _ _ _ => rfl, Below.refl _ _⟩
                          go_wp2
                          go_loopw [20, 21] (fun v20 v21 wr => ∃ k : Nat, v21 = .int .i64 (k : Int) ∧ (∃ o20 c20, v20 = .slice o20 ((List.range k).filter (fun x => decide (x ∈ grp i))).length c20) ∧ Hid (k ≤ m ∧ OfJ w1 wr m w5.heap.size low (grp i) S r k v20)) (fun _ v _ => m - (intOf v).toNat)
                          case atStart => exact ⟨0, rfl, ⟨_, _, rfl⟩, ⟨Nat.zero_le _, HJ0.out⟩⟩
                          case round =>
                            clear HJ0
                            obtain ⟨k, rfl, ⟨o20, c20, rfl⟩, HJ⟩ := hrel
                            obtain ⟨q, hq⟩ : ∃ q, ((List.range k).filter (fun x => decide (x ∈ grp i))).length = q := ⟨_, rfl⟩
                            have HQ : Hid (((List.range k).filter (fun x => decide (x ∈ grp i))).length = q) := hq
                            have hqk : q ≤ k := by have := List.length_filter_le (fun x => decide (x ∈ grp i)) (List.range k); rw [List.length_range] at this; omega
                            rw [hq] at HJ ⊢
                            clear hq
                            by_cases hk : k < m
                            · have hki : (k : Int) < (m : Int) := by omega
                              have HLr : LnAt wr wo.heap.size m m R lv := HL1.out.1.same (HJ.out.2.kp _ (by have := HLn.out.2.2.2.2; have := HL1.out.2; omega) (by have := HLn.out.2.2.2.2; omega)) (fun x hx => HJ.out.2.kp _ (by have := HLn.out.2.1 x hx; have := HL1.out.2; omega) (by have := HLn.out.2.1 x hx; omega))
                              obtain ⟨ra, rb, rc, rd⟩ := HLr.row (i := i) HM.out (Nat.le_refl _)
                              obtain ⟨sa, -, sc, sd⟩ := HLr.row (i := k) hk (Nat.le_refl _)
                              have rdk := rd k hk
                              have sdi := sd i HM.out
                              have hgr := HGr.out k hk
                              have lSb : w5.heap.size < wr.heap.size := HJ.out.2.st.lt
                              have HK : Hid (k < m ∧ q ≤ k ∧ w5.heap.size < w1.heap.size ∧ m ≤ 20000) := ⟨hk, hqk, HL1.out.2, HAd.out.2.2⟩
                              have hqn : q ≤ 20000 := by have := HAd.out.2.2; omega
                              clear HLr rd sd hk hqk
                              by_cases hmem : k ∈ grp i
                              · have HMm : Hid (k ∈ grp i) := hmem
                                rw [decide_eq_true hmem] at hgr
                                have HOw : Hid (wr.ownsRow w1.heap.size 3 1 (.slice o20 q c20) q (((List.range k).filter (fun x => decide (x ∈ grp i))).map nv)) := by have h := HJ.out.2.own; rw [HQ.out] at h; exact h
                                have hws : w1.heap.size ≤ wr.heap.size := HJ.out.2.sz
                                have cst : wr.cell? ⟨w5.heap.size, k, none⟩ = some (.bool (decide (pos low S k < r) || (decide (k < k) && decide (k ∈ grp i)))) := HJ.out.2.st.cell HK.out.1
                                have fst : wr.frozen? ⟨w5.heap.size, k, none⟩ = false := HJ.out.2.st.frozen k
                                have HSt : Hid (∀ W8 : World, (wr.alloc (.cells #[.int .i64 (k : Int)] 3)).grownBy W8 (Value.slice o20 q c20).ownBlock → W8.cell? ⟨w5.heap.size, k, none⟩ = some (.bool (decide (pos low S k < r) || (decide (k < k) && decide (k ∈ grp i)))) ∧ W8.frozen? ⟨w5.heap.size, k, none⟩ = false ∧ w5.heap.size < W8.heap.size) := fun W8 h8 => by
                                  have h9 : W8.heap[w5.heap.size]? = wr.heap[w5.heap.size]? := (grown_block h8 (by simp; omega) (fun e => by have := (owns_lt HOw.out e).1; have := HK.out.2.2.1; omega)).trans (Below.heap_alloc wr _ _ lSb)
                                  exact ⟨(World.cell?_of_block (a := ⟨w5.heap.size, k, none⟩) h9).trans cst, (World.frozen?_of_block (a := ⟨w5.heap.size, k, none⟩) h9).trans fst, by have := h8.size; simp at this; omega⟩
                                clear hmem cst fst
                                by_cases hki2 : k = i
                                · subst hki2
                                  clear hgr rdk sdi ra sa rc sc
                                  go_wp2_with (at_builtin; refine wpList_append_lies _ rfl _ _ 30 rfl w1.heap.size 3 i0 (.int .i64 0) 1 8 Try.underlying30 HI0.out.1 HI0.out.2.1 HI0.out.2.2.1 HI0.out.2.2.2 rfl (by decide) _ _ _ rfl (HOw.out.alloc _) ⟨wr.heap.size, 0, none⟩ 1 1 [.int .i64 (k : Int)] rfl rfl (cell_one_new _ _ _) (by simp [Value.oneCell']) (by decide) (by unfold maxLen; omega) (by omega) (by simp; omega) (wr.heap.size + 1) (by simp) ?_; intro o8 c8 w8 hown8 hgrow8 hat8 hlt8; have H8 : Hid ((wr.alloc (.cells #[.int .i64 (k : Int)] 3)).grownBy w8 (Value.slice o20 q c20).ownBlock ∧ w8.ownsRow w1.heap.size 3 1 (.slice (some ⟨o8, 0, none⟩) (q + 1) c8) (q + 1) (((List.range k).filter (fun x => decide (x ∈ grp k))).map nv ++ [.int .i64 (k : Int)])) := ⟨hgrow8, hown8⟩; obtain ⟨x8, y8, z8⟩ := HSt.out w8 hgrow8; clear hown8 hgrow8 hat8 hlt8)
                                  refine ⟨⟨k + 1, by congr 1, ⟨some ⟨o8, 0, none⟩, c8, by rw [List.range_succ, List.filter_append, List.length_append, HQ.out]; simp [HMm.out]⟩, ⟨HK.out.1, ?_⟩⟩, ?_⟩
                                  · exact HJ.out.2.push HMm.out HK.out.1 HK.out.2.2.1 HQ.out H8.out.1 H8.out.2
                                  · show m - ((k : Int) + 1).toNat < m - ((k : Int)).toNat
                                    have := HK.out.1; omega
                                · have hne1 : ((k : Int) == (i : Int)) = false := by simp; omega
                                  have hne2 : ¬ (k : Int) = (i : Int) := by omega
                                  have hbe : (k == i) = false := by simpa using hki2
                                  rw [hbe, Bool.false_or, Bool.and_eq_true] at hgr
                                  rw [hgr.1] at rdk
                                  rw [hgr.2] at sdi
                                  clear hgr hbe hki2
                                  go_wp2_with (at_builtin; refine wpList_append_lies _ rfl _ _ 30 rfl w1.heap.size 3 i0 (.int .i64 0) 1 8 Try.underlying30 HI0.out.1 HI0.out.2.1 HI0.out.2.2.1 HI0.out.2.2.2 rfl (by decide) _ _ _ rfl (HOw.out.alloc _) ⟨wr.heap.size, 0, none⟩ 1 1 [.int .i64 (k : Int)] rfl rfl (cell_one_new _ _ _) (by simp [Value.oneCell']) (by decide) (by unfold maxLen; omega) (by omega) (by simp; omega) (wr.heap.size + 1) (by simp) ?_; intro o8 c8 w8 hown8 hgrow8 hat8 hlt8; have H8 : Hid ((wr.alloc (.cells #[.int .i64 (k : Int)] 3)).grownBy w8 (Value.slice o20 q c20).ownBlock ∧ w8.ownsRow w1.heap.size 3 1 (.slice (some ⟨o8, 0, none⟩) (q + 1) c8) (q + 1) (((List.range k).filter (fun x => decide (x ∈ grp i))).map nv ++ [.int .i64 (k : Int)])) := ⟨hgrow8, hown8⟩; obtain ⟨x8, y8, z8⟩ := HSt.out w8 hgrow8; clear hown8 hgrow8 hat8 hlt8)
                                  refine ⟨⟨k + 1, by congr 1, ⟨some ⟨o8, 0, none⟩, c8, by rw [List.range_succ, List.filter_append, List.length_append, HQ.out]; simp [HMm.out]⟩, ⟨HK.out.1, ?_⟩⟩, ?_⟩
                                  · exact HJ.out.2.push HMm.out HK.out.1 HK.out.2.2.1 HQ.out H8.out.1 H8.out.2
                                  · show m - ((k : Int) + 1).toNat < m - ((k : Int)).toNat
                                    have := HK.out.1; omega
                              · have HMm : Hid (k ∉ grp i) := hmem
                                rw [decide_eq_false hmem] at hgr
                                clear hmem
                                have hki2 : ¬ k = i := fun e => by rw [e] at hgr; simp at hgr
                                have hne1 : ((k : Int) == (i : Int)) = false := by simp; omega
                                have hne2 : ¬ (k : Int) = (i : Int) := by omega
                                have hbe : (k == i) = false := by simpa using hki2
                                rw [hbe, Bool.false_or, Bool.and_eq_false_iff] at hgr
                                have HN : Hid ((∃ q : Nat, Value.int .i64 ((k : Int) + 1) = .int .i64 (q : Int) ∧ (∃ o20' c20', Value.slice o20 ((List.range k).filter (fun x => decide (x ∈ grp i))).length c20 = .slice o20' ((List.range q).filter (fun x => decide (x ∈ grp i))).length c20') ∧ Hid (q ≤ m ∧ OfJ w1 wr m w5.heap.size low (grp i) S r q (.slice o20 ((List.range k).filter (fun x => decide (x ∈ grp i))).length c20))) ∧ m - (intOf (Value.int .i64 ((k : Int) + 1))).toNat < m - (intOf (Value.int .i64 (k : Int))).toNat) := by
                                  refine ⟨⟨k + 1, by congr 1, ⟨o20, c20, by rw [List.range_succ, List.filter_append]; simp [HMm.out]⟩, ⟨HK.out.1, ?_⟩⟩, ?_⟩
                                  · rw [HQ.out]; exact HJ.out.2.skip HMm.out
                                  · show m - ((k : Int) + 1).toNat < m - ((k : Int)).toNat
                                    have := HK.out.1; omega
                                rw [HQ.out] at HN
                                cases hb1 : lv i k with
                                | false =>
                                  rw [hb1] at rdk
                                  clear hgr hb1 hbe hki2
                                  go_wp2
                                  all_goals exact HN.out
                                | true =>
                                  rw [hb1] at rdk hgr
                                  have hb2 : lv k i = false := by rcases hgr with h | h; cases h; exact h
                                  rw [hb2] at sdi
                                  clear hgr hb1 hb2 hbe hki2
                                  go_wp2
                                  all_goals exact HN.out
                            · have hki : ¬ (k : Int) < (m : Int) := by omega
                              have hkm : k = m := by have := HJ.out.1; omega
                              subst hkm
                              have hfil : (List.range k).filter (fun x => decide (x ∈ grp i)) = grp i := by
                                obtain ⟨h1, h2⟩ := HT.out
                                subst h2
                                exact grp_filter HP.out.2.1 HP.out.2.2 h1
                              have hql : q = (grp i).length := by rw [← HQ.out, hfil]
                              obtain ⟨go, rfl⟩ : ∃ go, o20 = some ⟨go, 0, none⟩ := by
                                rcases HJ.out.2.own with ⟨_, ⟨h1, h2⟩ | ⟨g', c', cur, h1, _⟩⟩
                                · have := HG.out.2.1; rw [hfil] at h2; omega
                                · cases h1; exact ⟨_, rfl⟩
                              have HF : Hid (q = (grp i).length ∧ OfJ w1 wr k w5.heap.size low (grp i) S r k (.slice (some ⟨go, 0, none⟩) q c20)) := ⟨hql, HJ.out.2⟩
                              have HOw : Hid (wr.ownsRow (w5.heap.size + 1) 30 1 (.slice o16 r c16) r gvs) := by
                                have h := HI.out.2.own
                                rw [HI.out.2.ln] at h
                                exact owns_same h (fun b hb => HJ.out.2.kp b (owns_lt h hb).2 (by have := (owns_lt h hb).1; omega))
                              have hws : w5.heap.size + 1 ≤ wr.heap.size := by have := HJ.out.2.sz; have := HL1.out.2; omega
                              have hrn : r ≤ 20000 := by
                                have h1 := HG.out.2.2.2.2.2
                                have h2 := nodup_lt _ _ HP.out.2.2.nd (fun x hx => ((HP.out.2.2.all x).1 hx).1)
                                have := HAd.out.2.2
                                omega
                              have hri : (r : Int) ≤ 20000 := by omega
                              have hqi : (q : Int) ≤ 20000 := by have := HG.out.1; have := HAd.out.2.2; omega
                              clear hk hfil hql HL1 HRd HGr
                              go_wp2_with (at_builtin; refine wpList_append_lies _ rfl _ _ 22 rfl (w5.heap.size + 1) 30 i1 (.slice none 0 0) 1 24 Try.underlying22 HI1.out.1 HI1.out.2.1 HI1.out.2.2.1 HI1.out.2.2.2 rfl (by decide) _ _ _ rfl (HOw.out.alloc _) ⟨wr.heap.size, 0, none⟩ 1 1 [.slice (some ⟨go, 0, none⟩) q c20] rfl rfl (cell_one_new _ _ _) (by simp [Value.oneCell']) (by decide) (by unfold maxLen; omega) (by omega) (by simp; omega) (wr.heap.size + 1) (by simp) ?_; intro o8 c8 w8 hown8 hgrow8 hat8 hlt8; have H8 : Hid ((wr.alloc (.cells #[.slice (some ⟨go, 0, none⟩) q c20] 30)).grownBy w8 (Value.slice o16 r c16).ownBlock ∧ w8.ownsRow (w5.heap.size + 1) 30 1 (.slice (some ⟨o8, 0, none⟩) (r + 1) c8) (r + 1) (gvs ++ [.slice (some ⟨go, 0, none⟩) q c20]) ∧ ((Value.slice o16 r c16).ownBlock = some o8 ∨ o8 = wr.heap.size + 1)) := ⟨hgrow8, hown8, hat8⟩; clear hown8 hgrow8 hat8 hlt8)
                              refine ⟨⟨r + 1, gvs ++ [.slice (some ⟨go, 0, none⟩) q c20], ?_, ⟨_, _, rfl⟩, ⟨HG.out.2.2.2.2.2, ?_⟩⟩, ?_⟩
                              · obtain ⟨h1, h2⟩ := HT.out
                                have h3 := stood_next (grp := grp) h1
                                rw [h2, HD.out] at h3
                                rw [h3, ← HF.out.1]
                                congr 1
                              · obtain ⟨h1, h2⟩ := HT.out
                                subst h2
                                exact OfI.next (adj := adjF ns us) HP.out.2.1 HP.out.2.2 HI.out.2 h1 HI.out.2.st.lt (Nat.le_refl _) HF.out.2 HF.out.1 H8.out.1 H8.out.2.1 H8.out.2.2
                              · show k - ((dn : Int) + (q : Int)).toNat < k - ((dn : Int)).toNat
                                have h1 := HF.out.1
                                have h2 := HG.out
                                have h3 := HD.out
                                omega
                        · have hlt : i < g := by have := HIi.out; omega
                          have HLt : Hid (i < g) := hlt
                          by_cases hp : pos low S i < r
                          · rw [decide_eq_true hp] at cst
                            clear hp hig hlt HC HRy
                            go_wp2
                            refine ⟨⟨i + 1, by congr 1, by trivial, by trivial, by trivial, HLt.out⟩, ?_⟩
                            show m - ((i : Int) + 1).toNat < m - ((i : Int)).toNat
                            have := HM.out; omega
                          · rw [decide_eq_false hp] at cst
                            have hrf : rdB m lv (fun k => decide (pos low S k < r)) i = false := by
                              cases e : rdB m lv (fun k => decide (pos low S k < r)) i with
                              | false => rfl
                              | true => have := HRd.out.2 i HM.out hp e; omega
                            rw [hrf] at HC
                            have HC2 : Hid (Calls Try.prog 27 #[.slice (some ⟨wo.heap.size, 0, none⟩) m m, .slice (some ⟨w5.heap.size, 0, none⟩) m m, .int .i64 (i : Int)] w1 fun r' W' => r' = .returned (.bool false) ∧ W' = w1) := HC
                            clear hp hig hlt HC hrf HRy
                            go_wp2_with (go_at_call 27; fail)
                            refine HC2.out.mono ?_
                            rintro e w9 ⟨rfl, hw9⟩
                            have hw10 := hw9.symm
                            subst hw10
                            clear hw9 HC2
                            go_wp2
                            refine ⟨⟨i + 1, by congr 1, by trivial, by trivial, by trivial, HLt.out⟩, ?_⟩
                            show m - ((i : Int) + 1).toNat < m - ((i : Int)).toNat
                            have := HM.out; omega
                    · have hdi : ¬ (dn : Int) < (m : Int) := by have h1 := stood_all HP.out.2.1 HP.out.2.2 (r := r) (by omega); have h2 := HD.out; omega
                      have HX : Hid (IntsAt w1 (.slice o16 r c16) (S.map grp)) := by
                        have hI := HI.out.2
                        have hrS : r = S.length := by have := HI.out.1; omega
                        have hSl : (S.map grp).length = r := by rw [List.length_map, hrS]
                        have hSm : S.length ≤ m := nodup_lt _ _ HP.out.2.2.nd (fun x hx => ((HP.out.2.2.all x).1 hx).1)
                        have hm := HAd.out.2.2
                        refine ⟨o16, c16, by rw [hSl], by omega, ?_, fun l hl => ?_⟩
                        · rcases hI.own with ⟨hl, ⟨h1, h2⟩ | ⟨gb, cap', cur, h1, h2, h3, h4, h5, h6, h7⟩⟩
                          · left; exact List.length_eq_zero_iff.1 (by rw [hSl, ← hI.ln, h2])
                          · cases h1
                            refine .inr ⟨gb, rfl, (Array.getElem?_eq_some_iff.1 h3).1, fun j hj => ?_⟩
                            have hjg : j < gvs.length := by rw [hI.ln]; omega
                            have h8 : (cur.toList.take (gvs.length * 1))[j]? = gvs[j]? := by rw [h7]
                            rw [List.getElem?_take_of_lt (by omega), Array.getElem?_toList, List.getElem?_eq_getElem hjg] at h8
                            refine ⟨gvs[j], Blk.cell (vs := cur) h3 j _ h8, ?_⟩
                            rw [List.getElem_map]
                            exact (hI.rows j hjg (by omega)).1
                        · obtain ⟨x, hx, rfl⟩ := List.mem_map.1 hl
                          have hxm := (HP.out.2.2.all x).1 hx
                          have hnd : (grp x).Nodup := (HP.out.2.1.gr x hxm.1 hxm.2).1.imp (fun h => Nat.ne_of_lt h)
                          have hlt : ∀ y ∈ grp x, y < m := fun y hy => ((mem_grp HP.out.2.1 HP.out.2.2 hx).1 hy).1
                          have := nodup_lt _ _ hnd hlt
                          exact ⟨by omega, fun y hy => by have := hlt y hy; omega⟩
                      have HB : Hid (Below w.heap.size w w1) := HLn.out.2.2.2.1.trans (HI.out.2.bl.mono HLn.out.2.2.2.1.size)
                      clear hr
                      go_wp2
                      go_ret2
                      exact ⟨_, rfl, HX.out, HB.out⟩
end Go.Proofs.Ytkkpkcigflikkaa
