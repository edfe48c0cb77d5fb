/-
  Package groups: between, by a contract.
-/
import Derived.Test.YtkkpkcigflikkaaLc
namespace Go.Proofs.Ytkkpkcigflikkaa
open Go.RowKit Go.Shelf Go.Maps G
set_option linter.unusedVariables false

/-- Uses between groups: who uses whom. -/
def ed1 (low : Nat → Nat) (p q : Nat) : Option (Nat × Nat) := if low p = low q then none else some (low p, low q)
def edP (low : Nat → Nat) (adj : Nat → List Nat) (p : Nat) : List (Nat × Nat) := (adj p).filterMap (ed1 low p)
def edL (low : Nat → Nat) (adj : Nat → List Nat) (k : Nat) : List (Nat × Nat) := (List.range k).flatMap (edP low adj)
theorem edL_next (low : Nat → Nat) (adj : Nat → List Nat) (k : Nat) : edL low adj (k + 1) = edL low adj k ++ edP low adj k := by
  unfold edL; rw [List.range_succ, List.flatMap_append]; simp
def usF (E : List (Nat × Nat)) (g : Nat) : List Nat := (E.filter (fun e => e.2 == g)).map (·.1)
def waF (E : List (Nat × Nat)) (u : Nat) : Nat := (E.filter (fun e => e.1 == u)).length
theorem usF_snoc (E : List (Nat × Nat)) (a c g : Nat) : usF (E ++ [(a, c)]) g = upd (usF E) c (usF E c ++ [a]) g := by
  unfold usF upd
  rw [List.filter_append, List.map_append]
  by_cases e : g = c
  · subst e; simp
  · rw [if_neg e]
    have : ¬ c = g := fun h => e h.symm
    simp [this]
theorem waF_snoc (E : List (Nat × Nat)) (a c u : Nat) : waF (E ++ [(a, c)]) u = upd (waF E) a (waF E a + 1) u := by
  unfold waF upd
  rw [List.filter_append, List.length_append]
  by_cases e : u = a
  · subst e; simp
  · rw [if_neg e]
    have : ¬ a = u := fun h => e h.symm
    simp [this]
theorem usF_le (E : List (Nat × Nat)) (g : Nat) : (usF E g).length ≤ E.length := by unfold usF; rw [List.length_map]; exact List.length_filter_le _ _
theorem waF_le (E : List (Nat × Nat)) (g : Nat) : waF E g ≤ E.length := by unfold waF; exact List.length_filter_le _ _
theorem edL_len (low : Nat → Nat) (adj : Nat → List Nat) (n U : Nat) (hU : ∀ x, x < n → (adj x).length ≤ U) : ∀ k, k ≤ n → (edL low adj k).length ≤ k * U
  | 0, _ => by simp [edL]
  | k + 1, h => by
    have h1 := edL_len low adj n U hU k (by omega)
    have h2 := List.length_filterMap_le (ed1 low k) (adj k)
    have h3 := hU k (by omega)
    rw [edL_next, List.length_append, Nat.add_mul]
    unfold edP
    omega
/-- What between holds. -/
structure BtI (w : World) (n : Nat) (E : List (Nat × Nat)) (B1 B2 : Nat) (W : World) : Prop where
  g : GRows W (w.heap.size + 2) B1 n (usF E)
  f : FB W B2 n (fun u => nv (waF E u)) 3
  b : Below w.heap.size w W
  ne : B1 ≠ B2
  l1 : w.heap.size ≤ B1
  l2 : w.heap.size ≤ B2
  h1 : B1 < w.heap.size + 2
  h2 : B2 < w.heap.size + 2
theorem grows_of {W : World} {base B n : Nat} (h : FB W B n (fun _ => .slice none 0 0) 30) (hB : B < base) (hb : base ≤ W.heap.size) : GRows W base B n (usF []) := ⟨fun _ => .slice none 0 0, h, fun i hi => owns_nil _ _ _ _, fun i j _ _ _ g hg => (by cases hg), hB, hb⟩
theorem bt_start1 (w : World) (n : Nat) : BtI w n [] w.heap.size (w.heap.size + 1) ((w.alloc (.cells (madeCells #[.slice none 0 0] n) 30)).alloc (.cells (madeCells #[.int .i64 0] n) 3)).drew := by
  refine ⟨?_, ?_, ?_, by omega, by omega, by omega, by omega, by omega⟩
  · exact grows_of ((fb_made w _ n _).alloc _).drew (by omega) (by show _ ≤ ((w.alloc _).alloc _).heap.size; simp)
  · have := fb_made (w.alloc (.cells (madeCells #[.slice none 0 0] n) 30)) (.int .i64 0) n 3
    rw [show (w.alloc (.cells (madeCells #[.slice none 0 0] n) 30)).heap.size = w.heap.size + 1 by simp] at this
    exact this.drew
  · exact ((below1 w _).alloc (by simp) _).drew
theorem bt_start2 (w : World) (n : Nat) : BtI w n [] (w.heap.size + 1) w.heap.size ((w.alloc (.cells (madeCells #[.int .i64 0] n) 3)).alloc (.cells (madeCells #[.slice none 0 0] n) 30)).drew := by
  refine ⟨?_, ?_, ?_, by omega, by omega, by omega, by omega, by omega⟩
  · have := fb_made (w.alloc (.cells (madeCells #[.int .i64 0] n) 3)) (.slice none 0 0) n 30
    rw [show (w.alloc (.cells (madeCells #[.int .i64 0] n) 3)).heap.size = w.heap.size + 1 by simp] at this
    exact grows_of this.drew (by omega) (by show _ ≤ ((w.alloc _).alloc _).heap.size; simp)
  · exact ((fb_made w _ n _).alloc _).drew
  · exact ((below1 w _).alloc (by simp) _).drew
theorem GRows.setOther {W : World} {base B n : Nat} {f : Nat → List Nat} (h : GRows W base B n f) {R i : Nat} (v : Value) (h1 : R ≠ B) (h2 : R < base) : GRows (W.setCell ⟨R, i, none⟩ v) base B n f := by
  obtain ⟨u, g1, g2, g3, g4, g5⟩ := h
  exact ⟨u, g1.setOther v h1.symm, fun i hi => owns_same (g2 i hi) (fun g hg => heap_set_other _ _ _ _ _ (by have := (owns_lt (g2 i hi) hg).1; omega)), g3, g4, by rw [size_set]; exact g5⟩
theorem GRows.drew {W : World} {base B n : Nat} {f : Nat → List Nat} (h : GRows W base B n f) : GRows W.drew base B n f := h
theorem BtI.drew {w W : World} {n : Nat} {E : List (Nat × Nat)} {B1 B2 : Nat} (h : BtI w n E B1 B2 W) : BtI w n E B1 B2 W.drew := ⟨h.g.drew, h.f.drew, h.b.drew, h.ne, h.l1, h.l2, h.h1, h.h2⟩
theorem BtI.step {w wd w8 : World} {n : Nat} {E : List (Nat × Nat)} {B1 B2 lk lq F o8 c8 crow : Nat} {orow : Option Addr} (h : BtI w n E B1 B2 wd) (hk : lk < n) (hq : lq < n) (hF : (usF E lq).length = F) (hc : wd.cell? ⟨B1, lq, none⟩ = some (.slice orow F crow)) (h5 : ∀ g, (Value.slice orow F crow).ownBlock = some g → w.heap.size + 2 ≤ g)
    (h1 : (wd.alloc (.cells #[.int .i64 (lk : Int)] 3)).grownBy w8 (Value.slice orow F crow).ownBlock) (h2 : w8.ownsRow (w.heap.size + 2) 3 1 (.slice (some ⟨o8, 0, none⟩) (F + 1) c8) (F + 1) ((usF E lq).map nv ++ [.int .i64 (lk : Int)])) (h3 : (Value.slice orow F crow).ownBlock = some o8 ∨ o8 = wd.heap.size + 1) (hB2 : w8.heap[B2]? = wd.heap[B2]?) :
    BtI w n (E ++ [(lk, lq)]) B1 B2 ((w8.setCell ⟨B1, lq, none⟩ (.slice (some ⟨o8, 0, none⟩) (F + 1) c8)).setCell ⟨B2, lk, none⟩ (nv (waF E lk + 1))) := by
  subst hF
  have hp := h.g.push (q := lq) (x := lk) hq hc h1 h2 h3
  refine ⟨(hp.congr (fun i hi => usF_snoc E lk lq i)).setOther _ h.ne.symm h.h2, ?_, ?_, h.ne, h.l1, h.l2, h.h1, h.h2⟩
  · refine ((h.f.same hB2).setOther _ h.ne.symm).setEq _ (fun j hj => ?_)
    rw [waF_snoc]
    unfold upd
    split <;> rfl
  · exact (((h.b.alloc h.b.size _).grown h1 (by have := h.b.size; simp; omega) (fun g hg => by have := h5 g hg; omega)).setCell (p := ⟨B1, lq, none⟩) h.l1 _).setCell (p := ⟨B2, lk, none⟩) h.l2 _
def BtPost (w : World) (n : Nat) (E : List (Nat × Nat)) (r : Ending) (W' : World) : Prop := ∃ B1 B2, r = .returned (.tuple #[.slice (some ⟨B1, 0, none⟩) n n, .slice (some ⟨B2, 0, none⟩) n n]) ∧ BtI w n E B1 B2 W'
set_option maxHeartbeats 8000000 in
set_option maxRecDepth 100000 in
theorem between_c (n b Ub L U : Nat) (adj : Nat → List Nat) (low : Nat → Nat) (hn : n ≤ 20000) (hU : ∀ x, x < n → (adj x).length ≤ U) (hU2 : U ≤ 1000000) (hadj : ∀ x, x < n → ∀ y ∈ adj x, y < n) (hlow : ∀ x, x < n → low x < n) (w : World) (hus : RowsAt w b Ub n adj) (hb : b ≤ w.heap.size) (hL : FB w L n (fun i => nv (low i)) 3) :
    Calls Try.prog 31 #[.slice (some ⟨Ub, 0, none⟩) n n, .slice (some ⟨L, 0, none⟩) n n] w fun r W' => BtPost w n (edL low adj n) r W' := by
  have hdep : Try.prog.follows Departure.mixedOrders = true := by kernel_rfl
  have hni : (n : Int) ≤ 20000 := by omega
  have hmk : ∀ W : World, (Instr.makeSlice 30 (.int .i64 (n : Int)) (.int .i64 (n : Int))).run Try.prog W = .ok (.slice (some ⟨W.heap.size, 0, none⟩) n n) (W.alloc (.cells (madeCells #[.int .i64 0] n) 3)) := fun W => run_make_row' 30 3 (.int .i64 0) 8 Try.underlying30 infoInt rfl .i64 .i64 n (by omega) (by omega) W
  have hmk2 : ∀ W : World, (Instr.makeSlice 22 (.int .i64 (n : Int)) (.int .i64 (n : Int))).run Try.prog W = .ok (.slice (some ⟨W.heap.size, 0, none⟩) n n) (W.alloc (.cells (madeCells #[.slice none 0 0] n) 30)) := fun W => run_make_row' 22 30 (.slice none 0 0) 24 Try.underlying22 infoInts rfl .i64 .i64 n (by omega) (by omega) W
  have HN : Hid (n ≤ 20000 ∧ (∀ x, x < n → (adj x).length ≤ U) ∧ U ≤ 1000000 ∧ (∀ x, x < n → ∀ y ∈ adj x, y < n) ∧ (∀ x, x < n → low x < n)) := ⟨hn, hU, hU2, hadj, hlow⟩
  have HW : Hid (RowsAt w b Ub n adj ∧ b ≤ w.heap.size ∧ FB w L n (fun i => nv (low i)) 3) := ⟨hus, hb, hL⟩
  have HEl : Hid (∀ k, k ≤ n → (edL low adj k).length ≤ 20000000000) := fun k hk => by
    have h1 := edL_len low adj n U hU k hk
    have h2 : k * U ≤ 20000 * 1000000 := Nat.mul_le_mul (by omega) hU2
    omega
  obtain ⟨i0, hi0, hz0, hz1, hz2⟩ := info_parts infoInt
  have HI0 : Hid (Try.prog.info? 3 = some i0 ∧ i0.zero = some (.int .i64 0) ∧ i0.size = 1 ∧ i0.bytes = 8) := ⟨hi0, hz0, hz1, hz2⟩
  clear hi0 hz0 hz1 hz2 hus hb hL hn hU hU2 hadj hlow
  go_enter Try.func31, Try.ntmps31
  go_wp2
  go_region
  · -- goal 1
    have hst := bt_start1 w n
    generalize hg1 : w.heap.size + 1 = B2 at hst ⊢
    generalize hg2 : w.heap.size = B1 at hst ⊢
    generalize ((w.alloc (.cells (madeCells #[.slice none 0 0] n) 30)).alloc (.cells (madeCells #[.int .i64 0] n) 3)).drew = W1 at hst ⊢
    clear hg1 hg2
    have HS1 : Hid (BtI w n [] B1 B2 W1) := hst
    clear hst hmk hmk2
    go_wp2
    go_loopw [20] (fun v8 wr => ∃ k : Nat, v8 = .int .i64 (k : Int) ∧ Hid (k ≤ n ∧ BtI w n (edL low adj k) B1 B2 wr)) (fun v _ => n - (intOf v).toNat)
    case atStart => exact ⟨0, rfl, ⟨Nat.zero_le _, HS1.out⟩⟩
    case round =>
      clear HS1
      obtain ⟨k, rfl, HI⟩ := hrel
      obtain ⟨wo, hwo⟩ : ∃ wo, wo = wr := ⟨_, rfl⟩
      subst hwo
      by_cases hk : k < n
      · have hus : RowsAt wo b Ub n adj := HW.out.1.below HI.out.2.b HW.out.2.1
        obtain ⟨uo, uc, ulen, ucl, ucm⟩ := hus.len hk
        have uU : Ub < wo.heap.size := by obtain ⟨_, u, h1, _⟩ := hus; exact h1.lt
        obtain ⟨m, hm⟩ : ∃ m, (adj k).length = m := ⟨_, rfl⟩
        have hmU := HN.out.2.1 k hk
        have HM : Hid ((adj k).length = m ∧ k < n ∧ m ≤ 1000000) := ⟨hm, hk, by have := HN.out.2.2.1; omega⟩
        rw [hm] at ulen ucl
        have hki : (k : Int) < (n : Int) := by omega
        have hmi : (m : Int) ≤ 1000000 := by have := HM.out.2.2; omega
        have HUl : Hid (wo.cell? ⟨Ub, k, none⟩ = some (.slice uo m uc)) := ulen
        clear hus hm hk hmU ucl ucm
        go_wp2
        go_loopw [27] (fun v8 wr => ∃ j : Nat, v8 = .int .i64 (j : Int) ∧ Hid (j ≤ m ∧ BtI w n (edL low adj k ++ ((adj k).take j).filterMap (ed1 low k)) B1 B2 wr)) (fun v _ => m - (intOf v).toNat)
        case atStart => exact ⟨0, rfl, ⟨Nat.zero_le _, by simpa using HI.out.2⟩⟩
        case round =>
          obtain ⟨j, rfl, HJ⟩ := hrel
          by_cases hj : j < m
          · have hjl : j < (adj k).length := by rw [HM.out.1]; exact hj
            obtain ⟨ug, ucap2, ue, ua1, ua2, ua3, ua4, ua5⟩ := HW.out.1.at HM.out.2.1 hjl
            have hwl : ∀ t, t < w.heap.size → wr.heap[t]? = w.heap[t]? := fun t ht => HJ.out.2.b.block t ht
            obtain ⟨q, hq⟩ : ∃ q, (adj k)[j] = q := ⟨_, rfl⟩
            have cq : wr.cell? ⟨ug, j, none⟩ = some (.int .i64 (q : Int)) := by
              rw [hq] at ua5
              exact (World.cell?_of_block (a := ⟨ug, j, none⟩) (hwl ug ua4)).trans ua5
            have lq : ug < wr.heap.size := Nat.lt_of_lt_of_le ua4 HJ.out.2.b.size
            have hug : uo = some ⟨ug, 0, none⟩ := by
              have h1 : Ub < w.heap.size := by obtain ⟨_, u, h1, _⟩ := HW.out.1; exact h1.lt
              have h2 := (World.cell?_of_block (a := ⟨Ub, k, none⟩) (HI.out.2.b.block Ub h1)).symm.trans HUl.out
              rw [ue] at h2
              simp only [Option.some.injEq, Value.slice.injEq] at h2
              exact h2.1.symm
            subst hug
            have hqn : q < n := HN.out.2.2.2.1 k HM.out.2.1 q (hq ▸ List.getElem_mem hjl)
            have hL2 : FB wr L n (fun i => nv (low i)) 3 := HW.out.2.2.same (hwl L HW.out.2.2.lt)
            have lk : wr.cell? ⟨L, k, none⟩ = some (.int .i64 (low k : Int)) := hL2.cell HM.out.2.1
            have ll : wr.cell? ⟨L, q, none⟩ = some (.int .i64 (low q : Int)) := hL2.cell hqn
            have lL := hL2.lt
            have hqi : (q : Int) < (n : Int) := by omega
            have hji : (j : Int) < (m : Int) := by omega
            have HQ : Hid (((adj k).take (j + 1)).filterMap (ed1 low k) = ((adj k).take j).filterMap (ed1 low k) ++ (ed1 low k q).toList ∧ j < m ∧ q < n) := ⟨by rw [List.take_succ_eq_append_getElem hjl, List.filterMap_append, hq]; cases h9 : ed1 low k q <;> simp [h9], hj, hqn⟩
            have HlN : Hid (low k < n ∧ low q < n) := ⟨HN.out.2.2.2.2 k HM.out.2.1, HN.out.2.2.2.2 q hqn⟩
            have hlkn : (low k : Int) < (n : Int) := by have := HlN.out.1; omega
            have hlqn : (low q : Int) < (n : Int) := by have := HlN.out.2; omega
            clear ue ua1 ua2 ua3 ua4 ua5 hwl hq hL2 hj hjl hqn
            by_cases hlw : low k = low q
            · have hne : ((low k : Int) != (low q : Int)) = false := by rw [hlw]; simp
              have HE : Hid (ed1 low k q = none) := by show _ = _; unfold ed1; rw [if_pos hlw]
              clear hlw
              go_wp2
              go_region
              go_wp2
              refine ⟨⟨j + 1, by congr 1, ⟨HQ.out.2.1, ?_⟩⟩, ?_⟩
              · rw [HQ.out.1, HE.out]
                have h9 := HJ.out.2.drew
                simpa using h9
              · show m - ((j : Int) + 1).toNat < m - ((j : Int)).toNat
                have := HQ.out.2.1; omega
            · have hne : ((low k : Int) != (low q : Int)) = true := by simp; omega
              have hne2 : ¬ (low k : Int) = (low q : Int) := by omega
              have HE : Hid (ed1 low k q = some (low k, low q)) := by show _ = _; unfold ed1; rw [if_neg hlw]
              obtain ⟨E, hE⟩ : ∃ E, edL low adj k ++ ((adj k).take j).filterMap (ed1 low k) = E := ⟨_, rfl⟩
              have hEl : E.length ≤ 20002000000 := by
                rw [← hE, List.length_append]
                have h1 := HEl.out k (by have := HM.out.2.1; omega)
                have h2 := List.length_filterMap_le (ed1 low k) ((adj k).take j)
                have h3 := List.length_take_le j (adj k)
                have h4 := HJ.out.1
                have h5 := HM.out.2.2
                omega
              have HE2 : Hid (edL low adj k ++ ((adj k).take j).filterMap (ed1 low k) = E) := hE
              have HB : Hid (BtI w n E B1 B2 wr) := by show BtI _ _ _ _ _ _; rw [← hE]; exact HJ.out.2
              obtain ⟨orow, crow, r1, r2, r3, r4, r5⟩ := HB.out.g.at HlN.out.2
              have w1 : wr.cell? ⟨B2, low k, none⟩ = some (.int .i64 (waF E (low k) : Int)) := HB.out.f.cell HlN.out.1
              have w2 := HB.out.f.frozen (low k)
              have w3 := HB.out.f.lt
              have hwa : (waF E (low k) : Int) ≤ 20002000000 := by have := waF_le E (low k); omega
              obtain ⟨F, hF⟩ : ∃ F, (usF E (low q)).length = F := ⟨_, rfl⟩
              have hFn : F ≤ 20002000000 := by have := usF_le E (low q); omega
              rw [hF] at r1 r2 r5
              have HF : Hid ((usF E (low q)).length = F) := hF
              have HR : Hid (wr.cell? ⟨B1, low q, none⟩ = some (.slice orow F crow)) := r1
              have HO : Hid (wr.ownsRow (w.heap.size + 2) 3 1 (.slice orow F crow) F ((usF E (low q)).map nv)) := r2
              have HO5 : Hid (∀ g, (Value.slice orow F crow).ownBlock = some g → w.heap.size + 2 ≤ g) := r5
              have HB3 : Hid (B1 ≠ B2 ∧ w.heap.size ≤ B1 ∧ w.heap.size ≤ B2 ∧ B1 < w.heap.size + 2 ∧ B2 < w.heap.size + 2 ∧ w.heap.size + 2 ≤ wr.heap.size) := ⟨HB.out.ne, HB.out.l1, HB.out.l2, HB.out.h1, HB.out.h2, by obtain ⟨_, _, _, _, _, h9⟩ := HB.out.g; exact h9⟩
              have hB12 : B1 ≠ B2 := HB.out.ne
              have HWS : Hid (wr.drew.heap.size = wr.heap.size) := rfl
              clear hE r2 r5 hF hlw hEl
              go_wp2
              go_region
              generalize hwd : wr.drew = wd
              have d1 : wd.cell? ⟨B1, low q, none⟩ = some (.slice orow F crow) := by rw [← hwd]; exact r1
              have d3 : wd.frozen? ⟨B1, low q, none⟩ = false := by rw [← hwd]; exact r3
              have d4 : B1 < wd.heap.size := by rw [← hwd]; exact r4
              have e1 : wd.cell? ⟨B2, low k, none⟩ = some (.int .i64 (waF E (low k) : Int)) := by rw [← hwd]; exact w1
              have e2 : wd.frozen? ⟨B2, low k, none⟩ = false := by rw [← hwd]; exact w2
              have e3 : B2 < wd.heap.size := by rw [← hwd]; exact w3
              have HO2 : Hid (wd.ownsRow (w.heap.size + 2) 3 1 (.slice orow F crow) F ((usF E (low q)).map nv)) := by rw [← hwd]; exact HO.out.drew
              have HBd : Hid (BtI w n E B1 B2 wd) := by
                show BtI _ _ _ _ _ _
                rw [← hwd]
                exact HB.out.drew
              have HSz : Hid (w.heap.size + 2 ≤ wd.heap.size) := by show _ ≤ _; rw [← hwd]; exact HB3.out.2.2.2.2.2
              have HRd : Hid (wd.cell? ⟨B1, low q, none⟩ = some (.slice orow F crow)) := d1
              clear r1 r3 r4 w1 w2 w3 cq lq lk ll lL HO HB HWS HR hwd
              go_wp2_with (at_builtin; refine wpList_append_lies _ rfl _ _ 30 rfl (w.heap.size + 2) 3 i0 (.int .i64 0) 1 8 Try.underlying30 HI0.out.1 HI0.out.2.1 HI0.out.2.2.1 HI0.out.2.2.2 rfl (by decide) _ _ _ rfl (HO2.out.alloc _) ⟨wd.heap.size, 0, none⟩ 1 1 [.int .i64 (low k : Int)] rfl rfl (cell_one_new _ _ _) (by simp [Value.oneCell']) (by decide) (by unfold maxLen; omega) (by omega) (by simp; have := HSz.out; omega) (wd.heap.size + 1) (by simp) ?_; intro o8 c8 w8 hown8 hgrow8 hat8 hlt8; have H8 : Hid ((wd.alloc (.cells #[.int .i64 (low k : Int)] 3)).grownBy w8 (Value.slice orow F crow).ownBlock ∧ w8.ownsRow (w.heap.size + 2) 3 1 (.slice (some ⟨o8, 0, none⟩) (F + 1) c8) (F + 1) ((usF E (low q)).map nv ++ [.int .i64 (low k : Int)]) ∧ ((Value.slice orow F crow).ownBlock = some o8 ∨ o8 = wd.heap.size + 1)) := ⟨hgrow8, hown8, hat8⟩; have hkk : w8.heap[B1]? = wd.heap[B1]? := (grown_block hgrow8 (by simp; omega) (fun e => by have := HO5.out _ e; have := HB3.out; omega)).trans (Below.heap_alloc wd _ _ d4); have hkk2 : w8.heap[B2]? = wd.heap[B2]? := (grown_block hgrow8 (by simp; omega) (fun e => by have := HO5.out _ e; have := HB3.out; omega)).trans (Below.heap_alloc wd _ _ e3); have x8 : w8.cell? ⟨B1, low q, none⟩ = some (.slice orow F crow) := (World.cell?_of_block (a := ⟨B1, low q, none⟩) hkk).trans d1; have y8 : w8.frozen? ⟨B1, low q, none⟩ = false := (World.frozen?_of_block (a := ⟨B1, low q, none⟩) hkk).trans d3; have z8 : B1 < w8.heap.size := (by have := hgrow8.size; simp at this; omega); have x9 : w8.cell? ⟨B2, low k, none⟩ = some (.int .i64 (waF E (low k) : Int)) := (World.cell?_of_block (a := ⟨B2, low k, none⟩) hkk2).trans e1; have y9 : w8.frozen? ⟨B2, low k, none⟩ = false := (World.frozen?_of_block (a := ⟨B2, low k, none⟩) hkk2).trans e2; have z9 : B2 < w8.heap.size := (by have := hgrow8.size; simp at this; omega); have HK2 : Hid (w8.heap[B2]? = wd.heap[B2]?) := hkk2; clear hown8 hgrow8 hat8 hlt8 hkk hkk2)
              refine ⟨⟨j + 1, by congr 1, ⟨HQ.out.2.1, ?_⟩⟩, ?_⟩
              · rw [HQ.out.1, HE.out, ← List.append_assoc, HE2.out]
                exact HBd.out.step HlN.out.1 HlN.out.2 HF.out HRd.out HO5.out H8.out.1 H8.out.2.1 H8.out.2.2 HK2.out
              · show m - ((j : Int) + 1).toNat < m - ((j : Int)).toNat
                have := HQ.out.2.1; omega
          · have hji : ¬ (j : Int) < (m : Int) := by omega
            have HJe : Hid ((adj k).take j = adj k) := by show _ = _; exact List.take_of_length_le (by have := HM.out.1; omega)
            clear hj
            go_wp2
            refine ⟨⟨k + 1, by congr 1, ⟨HM.out.2.1, ?_⟩⟩, ?_⟩
            · have h1 := HJ.out.2
              rw [HJe.out] at h1
              rw [edL_next]
              exact h1
            · show n - ((k : Int) + 1).toNat < n - ((k : Int)).toNat
              have := HM.out.2.1; omega
      · have hki : ¬ (k : Int) < (n : Int) := by omega
        have HK : Hid (k = n) := by show _ = _; have := HI.out.1; omega
        clear hk
        go_wp2
        go_ret2
        have h1 := HI.out.2
        rw [HK.out] at h1
        exact ⟨B1, B2, rfl, h1⟩
  · -- goal 2
    have hst := bt_start2 w n
    generalize hg1 : w.heap.size + 1 = B1 at hst ⊢
    generalize hg2 : w.heap.size = B2 at hst ⊢
    generalize ((w.alloc (.cells (madeCells #[.int .i64 0] n) 3)).alloc (.cells (madeCells #[.slice none 0 0] n) 30)).drew = W1 at hst ⊢
    clear hg1 hg2
    have HS1 : Hid (BtI w n [] B1 B2 W1) := hst
    clear hst hmk hmk2
    go_wp2
    go_loopw [20] (fun v8 wr => ∃ k : Nat, v8 = .int .i64 (k : Int) ∧ Hid (k ≤ n ∧ BtI w n (edL low adj k) B1 B2 wr)) (fun v _ => n - (intOf v).toNat)
    case atStart => exact ⟨0, rfl, ⟨Nat.zero_le _, HS1.out⟩⟩
    case round =>
      clear HS1
      obtain ⟨k, rfl, HI⟩ := hrel
      obtain ⟨wo, hwo⟩ : ∃ wo, wo = wr := ⟨_, rfl⟩
      subst hwo
      by_cases hk : k < n
      · have hus : RowsAt wo b Ub n adj := HW.out.1.below HI.out.2.b HW.out.2.1
        obtain ⟨uo, uc, ulen, ucl, ucm⟩ := hus.len hk
        have uU : Ub < wo.heap.size := by obtain ⟨_, u, h1, _⟩ := hus; exact h1.lt
        obtain ⟨m, hm⟩ : ∃ m, (adj k).length = m := ⟨_, rfl⟩
        have hmU := HN.out.2.1 k hk
        have HM : Hid ((adj k).length = m ∧ k < n ∧ m ≤ 1000000) := ⟨hm, hk, by have := HN.out.2.2.1; omega⟩
        rw [hm] at ulen ucl
        have hki : (k : Int) < (n : Int) := by omega
        have hmi : (m : Int) ≤ 1000000 := by have := HM.out.2.2; omega
        have HUl : Hid (wo.cell? ⟨Ub, k, none⟩ = some (.slice uo m uc)) := ulen
        clear hus hm hk hmU ucl ucm
        go_wp2
        go_loopw [27] (fun v8 wr => ∃ j : Nat, v8 = .int .i64 (j : Int) ∧ Hid (j ≤ m ∧ BtI w n (edL low adj k ++ ((adj k).take j).filterMap (ed1 low k)) B1 B2 wr)) (fun v _ => m - (intOf v).toNat)
        case atStart => exact ⟨0, rfl, ⟨Nat.zero_le _, by simpa using HI.out.2⟩⟩
        case round =>
          obtain ⟨j, rfl, HJ⟩ := hrel
          by_cases hj : j < m
          · have hjl : j < (adj k).length := by rw [HM.out.1]; exact hj
            obtain ⟨ug, ucap2, ue, ua1, ua2, ua3, ua4, ua5⟩ := HW.out.1.at HM.out.2.1 hjl
            have hwl : ∀ t, t < w.heap.size → wr.heap[t]? = w.heap[t]? := fun t ht => HJ.out.2.b.block t ht
            obtain ⟨q, hq⟩ : ∃ q, (adj k)[j] = q := ⟨_, rfl⟩
            have cq : wr.cell? ⟨ug, j, none⟩ = some (.int .i64 (q : Int)) := by
              rw [hq] at ua5
              exact (World.cell?_of_block (a := ⟨ug, j, none⟩) (hwl ug ua4)).trans ua5
            have lq : ug < wr.heap.size := Nat.lt_of_lt_of_le ua4 HJ.out.2.b.size
            have hug : uo = some ⟨ug, 0, none⟩ := by
              have h1 : Ub < w.heap.size := by obtain ⟨_, u, h1, _⟩ := HW.out.1; exact h1.lt
              have h2 := (World.cell?_of_block (a := ⟨Ub, k, none⟩) (HI.out.2.b.block Ub h1)).symm.trans HUl.out
              rw [ue] at h2
              simp only [Option.some.injEq, Value.slice.injEq] at h2
              exact h2.1.symm
            subst hug
            have hqn : q < n := HN.out.2.2.2.1 k HM.out.2.1 q (hq ▸ List.getElem_mem hjl)
            have hL2 : FB wr L n (fun i => nv (low i)) 3 := HW.out.2.2.same (hwl L HW.out.2.2.lt)
            have lk : wr.cell? ⟨L, k, none⟩ = some (.int .i64 (low k : Int)) := hL2.cell HM.out.2.1
            have ll : wr.cell? ⟨L, q, none⟩ = some (.int .i64 (low q : Int)) := hL2.cell hqn
            have lL := hL2.lt
            have hqi : (q : Int) < (n : Int) := by omega
            have hji : (j : Int) < (m : Int) := by omega
            have HQ : Hid (((adj k).take (j + 1)).filterMap (ed1 low k) = ((adj k).take j).filterMap (ed1 low k) ++ (ed1 low k q).toList ∧ j < m ∧ q < n) := ⟨by rw [List.take_succ_eq_append_getElem hjl, List.filterMap_append, hq]; cases h9 : ed1 low k q <;> simp [h9], hj, hqn⟩
            have HlN : Hid (low k < n ∧ low q < n) := ⟨HN.out.2.2.2.2 k HM.out.2.1, HN.out.2.2.2.2 q hqn⟩
            have hlkn : (low k : Int) < (n : Int) := by have := HlN.out.1; omega
            have hlqn : (low q : Int) < (n : Int) := by have := HlN.out.2; omega
            clear ue ua1 ua2 ua3 ua4 ua5 hwl hq hL2 hj hjl hqn
            by_cases hlw : low k = low q
            · have hne : ((low k : Int) != (low q : Int)) = false := by rw [hlw]; simp
              have HE : Hid (ed1 low k q = none) := by show _ = _; unfold ed1; rw [if_pos hlw]
              clear hlw
              go_wp2
              go_region
              go_wp2
              refine ⟨⟨j + 1, by congr 1, ⟨HQ.out.2.1, ?_⟩⟩, ?_⟩
              · rw [HQ.out.1, HE.out]
                have h9 := HJ.out.2.drew
                simpa using h9
              · show m - ((j : Int) + 1).toNat < m - ((j : Int)).toNat
                have := HQ.out.2.1; omega
            · have hne : ((low k : Int) != (low q : Int)) = true := by simp; omega
              have hne2 : ¬ (low k : Int) = (low q : Int) := by omega
              have HE : Hid (ed1 low k q = some (low k, low q)) := by show _ = _; unfold ed1; rw [if_neg hlw]
              obtain ⟨E, hE⟩ : ∃ E, edL low adj k ++ ((adj k).take j).filterMap (ed1 low k) = E := ⟨_, rfl⟩
              have hEl : E.length ≤ 20002000000 := by
                rw [← hE, List.length_append]
                have h1 := HEl.out k (by have := HM.out.2.1; omega)
                have h2 := List.length_filterMap_le (ed1 low k) ((adj k).take j)
                have h3 := List.length_take_le j (adj k)
                have h4 := HJ.out.1
                have h5 := HM.out.2.2
                omega
              have HE2 : Hid (edL low adj k ++ ((adj k).take j).filterMap (ed1 low k) = E) := hE
              have HB : Hid (BtI w n E B1 B2 wr) := by show BtI _ _ _ _ _ _; rw [← hE]; exact HJ.out.2
              obtain ⟨orow, crow, r1, r2, r3, r4, r5⟩ := HB.out.g.at HlN.out.2
              have w1 : wr.cell? ⟨B2, low k, none⟩ = some (.int .i64 (waF E (low k) : Int)) := HB.out.f.cell HlN.out.1
              have w2 := HB.out.f.frozen (low k)
              have w3 := HB.out.f.lt
              have hwa : (waF E (low k) : Int) ≤ 20002000000 := by have := waF_le E (low k); omega
              obtain ⟨F, hF⟩ : ∃ F, (usF E (low q)).length = F := ⟨_, rfl⟩
              have hFn : F ≤ 20002000000 := by have := usF_le E (low q); omega
              rw [hF] at r1 r2 r5
              have HF : Hid ((usF E (low q)).length = F) := hF
              have HR : Hid (wr.cell? ⟨B1, low q, none⟩ = some (.slice orow F crow)) := r1
              have HO : Hid (wr.ownsRow (w.heap.size + 2) 3 1 (.slice orow F crow) F ((usF E (low q)).map nv)) := r2
              have HO5 : Hid (∀ g, (Value.slice orow F crow).ownBlock = some g → w.heap.size + 2 ≤ g) := r5
              have HB3 : Hid (B1 ≠ B2 ∧ w.heap.size ≤ B1 ∧ w.heap.size ≤ B2 ∧ B1 < w.heap.size + 2 ∧ B2 < w.heap.size + 2 ∧ w.heap.size + 2 ≤ wr.heap.size) := ⟨HB.out.ne, HB.out.l1, HB.out.l2, HB.out.h1, HB.out.h2, by obtain ⟨_, _, _, _, _, h9⟩ := HB.out.g; exact h9⟩
              have hB12 : B1 ≠ B2 := HB.out.ne
              have HWS : Hid (wr.drew.heap.size = wr.heap.size) := rfl
              clear hE r2 r5 hF hlw hEl
              go_wp2
              go_region
              generalize hwd : wr.drew = wd
              have d1 : wd.cell? ⟨B1, low q, none⟩ = some (.slice orow F crow) := by rw [← hwd]; exact r1
              have d3 : wd.frozen? ⟨B1, low q, none⟩ = false := by rw [← hwd]; exact r3
              have d4 : B1 < wd.heap.size := by rw [← hwd]; exact r4
              have e1 : wd.cell? ⟨B2, low k, none⟩ = some (.int .i64 (waF E (low k) : Int)) := by rw [← hwd]; exact w1
              have e2 : wd.frozen? ⟨B2, low k, none⟩ = false := by rw [← hwd]; exact w2
              have e3 : B2 < wd.heap.size := by rw [← hwd]; exact w3
              have HO2 : Hid (wd.ownsRow (w.heap.size + 2) 3 1 (.slice orow F crow) F ((usF E (low q)).map nv)) := by rw [← hwd]; exact HO.out.drew
              have HBd : Hid (BtI w n E B1 B2 wd) := by
                show BtI _ _ _ _ _ _
                rw [← hwd]
                exact HB.out.drew
              have HSz : Hid (w.heap.size + 2 ≤ wd.heap.size) := by show _ ≤ _; rw [← hwd]; exact HB3.out.2.2.2.2.2
              have HRd : Hid (wd.cell? ⟨B1, low q, none⟩ = some (.slice orow F crow)) := d1
              clear r1 r3 r4 w1 w2 w3 cq lq lk ll lL HO HB HWS HR hwd
              go_wp2_with (at_builtin; refine wpList_append_lies _ rfl _ _ 30 rfl (w.heap.size + 2) 3 i0 (.int .i64 0) 1 8 Try.underlying30 HI0.out.1 HI0.out.2.1 HI0.out.2.2.1 HI0.out.2.2.2 rfl (by decide) _ _ _ rfl (HO2.out.alloc _) ⟨wd.heap.size, 0, none⟩ 1 1 [.int .i64 (low k : Int)] rfl rfl (cell_one_new _ _ _) (by simp [Value.oneCell']) (by decide) (by unfold maxLen; omega) (by omega) (by simp; have := HSz.out; omega) (wd.heap.size + 1) (by simp) ?_; intro o8 c8 w8 hown8 hgrow8 hat8 hlt8; have H8 : Hid ((wd.alloc (.cells #[.int .i64 (low k : Int)] 3)).grownBy w8 (Value.slice orow F crow).ownBlock ∧ w8.ownsRow (w.heap.size + 2) 3 1 (.slice (some ⟨o8, 0, none⟩) (F + 1) c8) (F + 1) ((usF E (low q)).map nv ++ [.int .i64 (low k : Int)]) ∧ ((Value.slice orow F crow).ownBlock = some o8 ∨ o8 = wd.heap.size + 1)) := ⟨hgrow8, hown8, hat8⟩; have hkk : w8.heap[B1]? = wd.heap[B1]? := (grown_block hgrow8 (by simp; omega) (fun e => by have := HO5.out _ e; have := HB3.out; omega)).trans (Below.heap_alloc wd _ _ d4); have hkk2 : w8.heap[B2]? = wd.heap[B2]? := (grown_block hgrow8 (by simp; omega) (fun e => by have := HO5.out _ e; have := HB3.out; omega)).trans (Below.heap_alloc wd _ _ e3); have x8 : w8.cell? ⟨B1, low q, none⟩ = some (.slice orow F crow) := (World.cell?_of_block (a := ⟨B1, low q, none⟩) hkk).trans d1; have y8 : w8.frozen? ⟨B1, low q, none⟩ = false := (World.frozen?_of_block (a := ⟨B1, low q, none⟩) hkk).trans d3; have z8 : B1 < w8.heap.size := (by have := hgrow8.size; simp at this; omega); have x9 : w8.cell? ⟨B2, low k, none⟩ = some (.int .i64 (waF E (low k) : Int)) := (World.cell?_of_block (a := ⟨B2, low k, none⟩) hkk2).trans e1; have y9 : w8.frozen? ⟨B2, low k, none⟩ = false := (World.frozen?_of_block (a := ⟨B2, low k, none⟩) hkk2).trans e2; have z9 : B2 < w8.heap.size := (by have := hgrow8.size; simp at this; omega); have HK2 : Hid (w8.heap[B2]? = wd.heap[B2]?) := hkk2; clear hown8 hgrow8 hat8 hlt8 hkk hkk2)
              refine ⟨⟨j + 1, by congr 1, ⟨HQ.out.2.1, ?_⟩⟩, ?_⟩
              · rw [HQ.out.1, HE.out, ← List.append_assoc, HE2.out]
                exact HBd.out.step HlN.out.1 HlN.out.2 HF.out HRd.out HO5.out H8.out.1 H8.out.2.1 H8.out.2.2 HK2.out
              · show m - ((j : Int) + 1).toNat < m - ((j : Int)).toNat
                have := HQ.out.2.1; omega
          · have hji : ¬ (j : Int) < (m : Int) := by omega
            have HJe : Hid ((adj k).take j = adj k) := by show _ = _; exact List.take_of_length_le (by have := HM.out.1; omega)
            clear hj
            go_wp2
            refine ⟨⟨k + 1, by congr 1, ⟨HM.out.2.1, ?_⟩⟩, ?_⟩
            · have h1 := HJ.out.2
              rw [HJe.out] at h1
              rw [edL_next]
              exact h1
            · show n - ((k : Int) + 1).toNat < n - ((k : Int)).toNat
              have := HM.out.2.1; omega
      · have hki : ¬ (k : Int) < (n : Int) := by omega
        have HK : Hid (k = n) := by show _ = _; have := HI.out.1; omega
        clear hk
        go_wp2
        go_ret2
        have h1 := HI.out.2
        rw [HK.out] at h1
        exact ⟨B1, B2, rfl, h1⟩
end Go.Proofs.Ytkkpkcigflikkaa
