/-
  Looking among texts; Self, of the program and of the document, by contracts.
-/
import Derived.Test.YtkkpkcigflikkaaQa
import Derived.Test.YtkkpkcigflikkaaOpenG
namespace Go.Proofs.Ytkkpkcigflikkaa
open Go.RowKit Go.Shelf Go.Maps G
set_option linter.unusedVariables false

set_option maxHeartbeats 4000000 in
set_option maxRecDepth 100000 in
theorem index_c (v : Value) (l : List (List UInt8)) (s : List UInt8) (hl : l.length ≤ 1000000) (w : World) (h : StrAt w v l) : Calls Try.prog 37 #[v, .string (bs s)] w fun r W' => r = .returned (.int .i64 (ixI l s)) ∧ W' = w := by
  obtain ⟨o, cap, hv, hc1, hc2⟩ := h.slice
  have HU : Hid (StrAt w v l) := h
  obtain ⟨n, hn⟩ : ∃ n, l.length = n := ⟨_, rfl⟩
  have HN : Hid (l.length = n) := hn
  have hni : (n : Int) ≤ 1000000 := by omega
  rw [hn] at hv
  subst hv
  clear h hc1 hc2 hn hl
  go_enter Try.func37, Try.ntmps37
  go_wp2
  go_loopw [8] (fun v5 wr => ∃ k : Nat, v5 = .int .i64 (k : Int) ∧ wr = w ∧ Hid (k ≤ n ∧ s ∉ l.take k)) (fun v _ => n - (intOf v).toNat)
  case atStart => exact ⟨0, rfl, rfl, ⟨Nat.zero_le _, by simp⟩⟩
  case round =>
    obtain ⟨k, rfl, hwr, HI⟩ := hrel
    have hwr := hwr.symm
    subst hwr
    by_cases hk : k < n
    · have hkl : k < l.length := by rw [HN.out]; exact hk
      obtain ⟨g, off, cp, e1, hg, hcj, hsz⟩ := HU.out.at hkl
      obtain ⟨rfl, -⟩ : o = some ⟨g, off, none⟩ ∧ True := by cases e1; exact ⟨rfl, trivial⟩
      have hki : (k : Int) < (n : Int) := by omega
      obtain ⟨y, hy⟩ : ∃ y, l[k] = y := ⟨_, rfl⟩
      have HK : Hid (k < n ∧ l.take (k + 1) = l.take k ++ [y] ∧ ∃ h : k < l.length, l[k] = y) := ⟨hk, by rw [List.take_succ_eq_append_getElem hkl, hy], hkl, hy⟩
      rw [hy] at hcj
      clear hk e1 hkl hy hsz
      by_cases hxy : s = y
      · subst hxy
        have h0 : ((bs s).toList == (bs s).toList) = true := by simp
        go_wp2
        go_ret
        obtain ⟨q1, q2⟩ := HK.out.2.2
        have q3 := HI.out.2
        rw [← q2] at q3
        have q4 := ixO_first q1 q3
        rw [q2] at q4
        rw [ixI_some q4]
        exact ⟨rfl, rfl⟩
      · have h0 : ((bs s).toList == (bs y).toList) = false := by rw [beq_eq_false_iff_ne, ByteArray.toList_eq, ByteArray.toList_eq]; exact hxy
        have HX : Hid (¬ s = y) := hxy
        clear hxy
        go_wp2
        refine ⟨⟨k + 1, by congr 1, trivial, ⟨HK.out.1, ?_⟩⟩, ?_⟩
        · rw [HK.out.2.1]
          intro h9
          rcases List.mem_append.1 h9 with h9 | h9
          · exact HI.out.2 h9
          · simp at h9; exact HX.out h9
        · show n - ((k : Int) + 1).toNat < n - ((k : Int)).toNat
          have := HK.out.1; omega
    · have hki : ¬ (k : Int) < (n : Int) := by omega
      have HX : Hid (ixI l s = -1) := by
        show _ = _
        have h1 := HI.out.2
        rw [List.take_of_length_le (by have := HN.out; omega)] at h1
        exact ixI_none (by unfold ixO; rw [if_neg h1])
      clear hk
      go_wp2
      go_ret
      rw [HX.out]
      exact ⟨rfl, rfl⟩
theorem ixI_ge (l : List (List UInt8)) (s : List UInt8) (hl : l.length ≤ 1000000) : (0 ≤ ixI l s ↔ s ∈ l) ∧ -1 ≤ ixI l s ∧ ixI l s ≤ 1000000 := by
  unfold ixI ixO
  by_cases h : s ∈ l
  · rw [if_pos h]
    have := List.idxOf_lt_length_iff.2 h
    simp only [h, iff_true]
    omega
  · rw [if_neg h]
    simp only [h, iff_false]
    omega
set_option maxHeartbeats 4000000 in
set_option maxRecDepth 100000 in
theorem contains_c (v : Value) (l : List (List UInt8)) (s : List UInt8) (hl : l.length ≤ 1000000) (w : World) (h : StrAt w v l) : Calls Try.prog 29 #[v, .string (bs s)] w fun r W' => r = .returned (.bool (decide (s ∈ l))) ∧ W' = w := by
  have HC : Hid (Calls Try.prog 37 #[v, .string (bs s)] w fun r W' => r = .returned (.int .i64 (ixI l s)) ∧ W' = w) := index_c v l s hl w h
  obtain ⟨q1, q2, q3⟩ := ixI_ge l s hl
  obtain ⟨z, hz⟩ : ∃ z, ixI l s = z := ⟨_, rfl⟩
  rw [hz] at HC q1 q2 q3
  have HQ : Hid (0 ≤ z ↔ s ∈ l) := q1
  obtain ⟨o, cap, hv, hc1, hc2⟩ := h.slice
  generalize l.length = n at hv
  subst hv
  clear h hc1 hc2 hl hz q1
  go_enter Try.func29, Try.ntmps29
  go_wp2_with (go_at_call 37; fail)
  refine HC.out.mono ?_
  rintro e w3 ⟨rfl, hw3⟩
  have hw4 := hw3.symm
  subst hw4
  clear hw3 HC
  by_cases hs : s ∈ l
  · have hz0 : (0 : Int) ≤ z := HQ.out.2 hs
    have hz1 : z ≥ 0 := hz0
    have HS : Hid (s ∈ l) := hs
    clear hs
    go_wp2
    go_ret
    exact ⟨by simp [HS.out]; first | exact hz0 | done, rfl⟩
  · have hz0 : ¬ (0 : Int) ≤ z := fun h9 => hs (HQ.out.1 h9)
    have hz1 : ¬ z ≥ 0 := hz0
    have HS : Hid (¬ s ∈ l) := hs
    clear hs
    go_wp2
    go_ret
    exact ⟨by simp [HS.out]; first | omega | done, rfl⟩
set_option maxHeartbeats 4000000 in
set_option maxRecDepth 100000 in
theorem sameTexts_c (va vb : Value) (l : List (List UInt8)) (hl : l.length ≤ 1000000) (w : World) (ha : StrAt w va l) (hb : StrAt w vb l) : Calls Try.prog 14 #[va, vb] w fun r W' => r = .returned (.bool true) ∧ Below w.heap.size w W' := by
  have hdep : Try.prog.follows Departure.mixedOrders = true := by kernel_rfl
  obtain ⟨oa, ca, ea, -, -⟩ := ha.slice
  obtain ⟨ob, cb, eb, -, -⟩ := hb.slice
  have HA : Hid (StrAt w va l ∧ StrAt w vb l) := ⟨ha, hb⟩
  obtain ⟨n, hn⟩ : ∃ n, l.length = n := ⟨_, rfl⟩
  have HN : Hid (l.length = n) := hn
  have hni : (n : Int) ≤ 1000000 := by omega
  rw [hn] at ea eb
  subst ea eb
  have hnn : ((n : Int) != (n : Int)) = false := by simp
  clear ha hb hn hl
  go_enter Try.func14, Try.ntmps14
  go_wp2
  clear hnn
  go_loopw [5] (fun v5 wr => ∃ k : Nat, v5 = .int .i64 (k : Int) ∧ Hid (k ≤ n ∧ Below w.heap.size w wr)) (fun v _ => n - (intOf v).toNat)
  case atStart => exact ⟨0, rfl, ⟨Nat.zero_le _, Below.refl _ _⟩⟩
  case round =>
    obtain ⟨k, rfl, HI⟩ := hrel
    by_cases hk : k < n
    · have hkl : k < l.length := by rw [HN.out]; exact hk
      obtain ⟨g1, off1, cp1, e1, hg1, hc1, -⟩ := HA.out.1.at hkl
      obtain ⟨g2, off2, cp2, e2, hg2, hc2, -⟩ := HA.out.2.at hkl
      obtain ⟨rfl, -⟩ : oa = some ⟨g1, off1, none⟩ ∧ True := by cases e1; exact ⟨rfl, trivial⟩
      obtain ⟨rfl, -⟩ : ob = some ⟨g2, off2, none⟩ ∧ True := by cases e2; exact ⟨rfl, trivial⟩
      have hki : (k : Int) < (n : Int) := by omega
      have x1 := (HI.out.2.cell (p := ⟨g1, off1 + k, none⟩) hg1).trans hc1
      have x2 := (HI.out.2.cell (p := ⟨g2, off2 + k, none⟩) hg2).trans hc2
      have lx : g1 < wr.heap.size := Nat.lt_of_lt_of_le hg1 HI.out.2.size
      have ly : g2 < wr.heap.size := Nat.lt_of_lt_of_le hg2 HI.out.2.size
      have HK : Hid (k < n) := hk
      generalize bs l[k] = y at x1 x2
      have h0 : (y.toList != y.toList) = false := by simp
      have h1 : (y.toList == y.toList) = true := by simp
      clear hk hkl e1 e2 hc1 hc2 hg1 hg2
      go_wp2
      go_region
      go_wp2
      refine ⟨⟨k + 1, by congr 1, ⟨HK.out, HI.out.2.drew⟩⟩, ?_⟩
      show n - ((k : Int) + 1).toNat < n - ((k : Int)).toNat
      have := HK.out; omega
    · have hki : ¬ (k : Int) < (n : Int) := by omega
      clear hk
      go_wp2
      go_ret
      exact ⟨rfl, HI.out.2⟩
/-- A place that is none. -/
def badB (n m : Nat) (x : Int) : Bool := decide (x < 0) || decide ((n : Int) ≤ x) || decide ((m : Int) ≤ x)
/-- What Self answers. -/
def selfB (ns : List (List UInt8)) (us : List (List (List UInt8))) (gl : List Int) : Bool := if gl.any (badB ns.length us.length) then false else if gl.length = 1 then decide (ns.getD (gl.headD 0).toNat [] ∈ us.getD (gl.headD 0).toNat []) else decide (1 < gl.length)
theorem selfB_bad {ns : List (List UInt8)} {us : List (List (List UInt8))} {gl : List Int} {x : Int} (hx : x ∈ gl) (h : badB ns.length us.length x = true) : selfB ns us gl = false := by
  unfold selfB
  rw [if_pos (List.any_eq_true.2 ⟨x, hx, h⟩)]
theorem selfB_good {ns : List (List UInt8)} {us : List (List (List UInt8))} {gl : List Int} (h : ∀ x ∈ gl, badB ns.length us.length x = false) : selfB ns us gl = if gl.length = 1 then decide (ns.getD (gl.headD 0).toNat [] ∈ us.getD (gl.headD 0).toNat []) else decide (1 < gl.length) := by
  unfold selfB
  rw [if_neg]
  intro h9
  obtain ⟨x, hx, h8⟩ := List.any_eq_true.1 h9
  rw [h x hx] at h8; cases h8
set_option maxHeartbeats 8000000 in
set_option maxRecDepth 100000 in
theorem self_c (v u z : Value) (ns : List (List UInt8)) (us : List (List (List UInt8))) (gl : List Int) (hnl : ns.length ≤ 20000) (hul : us.length ≤ 20000) (ht : total us ≤ 200000) (hgl : gl.length ≤ 20000) (w : World) (hv : StrAt w v ns) (hu : UseAt w u us) (hz : NumAt w z gl) : Calls Try.prog 15 #[v, u, z] w fun r W' => r = .returned (.bool (selfB ns us gl)) ∧ Below w.heap.size w W' := by
  have hdep : Try.prog.follows Departure.mixedOrders = true := by kernel_rfl
  have HV : Hid (StrAt w v ns ∧ UseAt w u us ∧ NumAt w z gl ∧ total us ≤ 200000) := ⟨hv, hu, hz, ht⟩
  obtain ⟨o, cap, ev, hc1, hc2⟩ := hv.slice
  obtain ⟨o2, cap2, eu, hd1, hd2⟩ := hu.slice
  obtain ⟨o3, cap3, ez, -, -, hzc, hzb⟩ := id hz
  obtain ⟨n, hn⟩ : ∃ n, ns.length = n := ⟨_, rfl⟩
  obtain ⟨m, hm⟩ : ∃ m, us.length = m := ⟨_, rfl⟩
  obtain ⟨p, hp⟩ : ∃ p, gl.length = p := ⟨_, rfl⟩
  have HL : Hid (ns.length = n ∧ us.length = m ∧ gl.length = p) := ⟨hn, hm, hp⟩
  have HZ : Hid ((gl = [] ∨ ∃ g off, o3 = some ⟨g, off, none⟩ ∧ g < w.heap.size ∧ ∀ j (h : j < gl.length), w.cell? ⟨g, off + j, none⟩ = some (.int .i64 gl[j])) ∧ ∀ x ∈ gl, (-9223372036854775808 : Int) ≤ x ∧ x ≤ 9223372036854775807) := ⟨hzc, hzb⟩
  rw [hn] at ev
  rw [hm] at eu
  rw [hp] at ez
  subst ev eu ez
  have hni : (n : Int) ≤ 20000 := by omega
  have hmi : (m : Int) ≤ 20000 := by omega
  have hpi : (p : Int) ≤ 20000 := by omega
  clear hv hu hz hc1 hc2 hd1 hd2 hn hm hp hnl hul ht hgl hzc hzb
  go_enter Try.func15, Try.ntmps15
  go_wp2
  go_loopw [11] (fun v7 wr => ∃ k : Nat, v7 = .int .i64 (k : Int) ∧ wr = w ∧ Hid (k ≤ p ∧ ∀ x ∈ gl.take k, badB ns.length us.length x = false)) (fun v _ => p - (intOf v).toNat)
  case atStart => exact ⟨0, rfl, rfl, ⟨Nat.zero_le _, fun x hx => by simp at hx⟩⟩
  case round =>
    obtain ⟨k, rfl, hwr, HI⟩ := hrel
    have hwr := hwr.symm
    subst hwr
    by_cases hk : k < p
    · have hkl : k < gl.length := by rw [HL.out.2.2]; exact hk
      have hki : (k : Int) < (p : Int) := by omega
      obtain ⟨g, off, rfl, hg, hcell⟩ : ∃ g off, o3 = some ⟨g, off, none⟩ ∧ g < w.heap.size ∧ w.cell? ⟨g, off + k, none⟩ = some (.int .i64 gl[k]) := by
        rcases HZ.out.1 with h | ⟨g, off, h1, h2, h3⟩
        · rw [h] at hkl; exact absurd hkl (Nat.not_lt_zero _)
        · exact ⟨g, off, h1, h2, h3 k hkl⟩
      obtain ⟨x, hx⟩ : ∃ x, gl[k] = x := ⟨_, rfl⟩
      have hxm : x ∈ gl := by rw [← hx]; exact List.getElem_mem hkl
      have hxb := HZ.out.2 x hxm
      obtain ⟨hxb1, hxb2⟩ := hxb
      have HK : Hid (k < p ∧ gl.take (k + 1) = gl.take k ++ [x] ∧ x ∈ gl) := ⟨hk, by rw [List.take_succ_eq_append_getElem hkl, hx], hxm⟩
      rw [hx] at hcell
      clear hk hkl hx hxm
      by_cases h1 : x < 0
      · have HB : Hid (selfB ns us gl = false) := selfB_bad HK.out.2.2 (by unfold badB; simp [h1])
        go_wp2
        go_ret
        exact ⟨by rw [HB.out]; rfl, Below.refl _ _⟩
      · by_cases h2 : (n : Int) ≤ x
        · have HB : Hid (selfB ns us gl = false) := selfB_bad HK.out.2.2 (by unfold badB; rw [HL.out.1]; simp [h2])
          have h2' : x ≥ (n : Int) := h2
          go_wp2
          go_ret
          exact ⟨by rw [HB.out]; rfl, Below.refl _ _⟩
        · have h2' : ¬ x ≥ (n : Int) := h2
          by_cases h3 : (m : Int) ≤ x
          · have HB : Hid (selfB ns us gl = false) := selfB_bad HK.out.2.2 (by unfold badB; rw [HL.out.2.1]; simp [h3])
            have h3' : x ≥ (m : Int) := h3
            go_wp2
            go_ret
            exact ⟨by rw [HB.out]; rfl, Below.refl _ _⟩
          · have h3' : ¬ x ≥ (m : Int) := h3
            have HB : Hid (badB ns.length us.length x = false) := by show _ = _; unfold badB; rw [HL.out.1, HL.out.2.1]; simp [h1, h2, h3]
            go_wp2
            refine ⟨⟨k + 1, by congr 1, trivial, ⟨HK.out.1, fun y hy => ?_⟩⟩, ?_⟩
            · rw [HK.out.2.1] at hy
              rcases List.mem_append.1 hy with hy | hy
              · exact HI.out.2 y hy
              · simp at hy; subst hy; exact HB.out
            · show p - ((k : Int) + 1).toNat < p - ((k : Int)).toNat
              have := HK.out.1; omega
    · have hki : ¬ (k : Int) < (p : Int) := by omega
      have HG : Hid (∀ x ∈ gl, badB ns.length us.length x = false) := by
        have h1 := HI.out.2
        rw [List.take_of_length_le (by have := HL.out.2.2; omega)] at h1
        exact h1
      clear hk HI
      by_cases hp1 : p = 1
      · have hgl1 : gl.length = 1 := by rw [HL.out.2.2]; exact hp1
        obtain ⟨x, hx⟩ := List.length_eq_one_iff.1 hgl1
        have hbx := HG.out x (by rw [hx]; simp)
        rw [HL.out.1, HL.out.2.1] at hbx
        unfold badB at hbx
        simp only [Bool.or_eq_false_iff, decide_eq_false_iff_not] at hbx
        obtain ⟨q, rfl⟩ : ∃ q : Nat, x = (q : Int) := ⟨x.toNat, by omega⟩
        have hqn : q < ns.length := by have := HL.out.1; omega
        have hqm : q < us.length := by have := HL.out.2.1; omega
        have hqi : (q : Int) < (n : Int) := by omega
        have hqj : (q : Int) < (m : Int) := by omega
        obtain ⟨g, off, rfl, hg, hcell⟩ : ∃ g off, o3 = some ⟨g, off, none⟩ ∧ g < w.heap.size ∧ w.cell? ⟨g, off, none⟩ = some (.int .i64 (q : Int)) := by
          rcases HZ.out.1 with h | ⟨g, off, h1, h2, h3⟩
          · rw [h] at hgl1; cases hgl1
          · refine ⟨g, off, h1, h2, ?_⟩
            have := h3 0 (by omega)
            rw [Nat.add_zero] at this
            rw [this]; simp [hx]
        obtain ⟨g1, off1, cp1, e1, hg1, hc1, -⟩ := HV.out.1.at hqn
        obtain ⟨rfl, -⟩ : o = some ⟨g1, off1, none⟩ ∧ True := by cases e1; exact ⟨rfl, trivial⟩
        obtain ⟨g2, off2, cp2, vj, e2, hg2, hc2, hst⟩ := HV.out.2.1.at hqm
        obtain ⟨rfl, -⟩ : o2 = some ⟨g2, off2, none⟩ ∧ True := by cases e2; exact ⟨rfl, trivial⟩
        have hlj := mem_total us q hqm
        have hself : selfB ns us gl = decide (ns[q] ∈ us[q]) := by
          rw [selfB_good HG.out, if_pos hgl1, hx]
          have e3 : ((([(q : Int)] : List Int).headD 0).toNat) = q := by simp
          rw [e3]
          have k1 : ns.getD q [] = ns[q] := by rw [List.getD_eq_getElem?_getD, List.getElem?_eq_getElem hqn, Option.getD_some]
          have k2 : us.getD q [] = us[q] := by rw [List.getD_eq_getElem?_getD, List.getElem?_eq_getElem hqm, Option.getD_some]
          rw [k1, k2]
        obtain ⟨rb, hrb⟩ : ∃ rb, decide (ns[q] ∈ us[q]) = rb := ⟨_, rfl⟩
        have HC : Hid (∀ X : World, Below w.heap.size w X → Calls Try.prog 29 #[vj, .string (bs ns[q])] X fun r W' => r = .returned (.bool rb) ∧ W' = X) := fun X hX => by
          rw [← hrb]
          exact contains_c vj us[q] ns[q] (by have := HV.out.2.2.2; omega) X (hst.below hX (Nat.le_refl _))
        rw [hrb] at hself
        have HQ : Hid (selfB ns us gl = rb) := hself
        clear hrb
        obtain ⟨oj, cj, rfl, -, -⟩ := hst.slice
        generalize us[q].length = lu at HC hc2
        generalize bs ns[q] = x at HC hc1
        subst hp1
        clear hst hlj e1 e2 hx hbx hgl1 hqn hqm hself
        go_wp2
        go_region_with (go_at_call 29; refine (HC.out _ (by first | exact Below.refl _ _ | exact (Below.refl _ _).drew)).mono ?_; rintro e w9 ⟨rfl, hw9⟩; subst hw9)
        all_goals (
          go_wp2
          go_ret
          exact ⟨by rw [HQ.out]; rfl, by first | exact (Below.refl _ _).drew | exact Below.refl _ _⟩)
      · have HX : Hid (selfB ns us gl = decide (1 < p)) := by
          show _ = _
          rw [selfB_good HG.out, if_neg (by rw [HL.out.2.2]; exact hp1), HL.out.2.2]
        have hp2 : ((p : Int) != 1) = true := by simp; omega
        have hp3 : ¬ (p : Int) = 1 := by omega
        clear hp1
        by_cases hp4 : 1 < p
        · have hp5 : (p : Int) > 1 := by omega
          have hp6 : (1 : Int) < (p : Int) := by omega
          go_wp2
          go_ret
          exact ⟨by rw [HX.out]; first | (rw [decide_eq_true hp4]; rfl) | (rw [decide_eq_false hp4]; rfl), Below.refl _ _⟩
        · have hp5 : ¬ (p : Int) > 1 := by omega
          have hp6 : ¬ (1 : Int) < (p : Int) := by omega
          go_wp2
          go_ret
          exact ⟨by rw [HX.out]; first | (rw [decide_eq_true hp4]; rfl) | (rw [decide_eq_false hp4]; rfl), Below.refl _ _⟩
set_option maxHeartbeats 8000000 in
set_option maxRecDepth 100000 in
theorem rself_c (v u z : Value) (ns : List (List UInt8)) (us : List (List (List UInt8))) (gl : List Int) (hnl : ns.length ≤ 20000) (hul : us.length ≤ 20000) (ht : total us ≤ 200000) (hgl : gl.length ≤ 20000) (w : World) (hv : StrAt w v ns) (hu : UseAt w u us) (hz : NumAt w z gl) : Calls Try.prog 16 #[v, u, z] w fun r W' => r = .returned (.bool (selfB ns us gl)) ∧ Below w.heap.size w W' := by
  have hdep : Try.prog.follows Departure.mixedOrders = true := by kernel_rfl
  have HV : Hid (StrAt w v ns ∧ UseAt w u us ∧ NumAt w z gl ∧ total us ≤ 200000) := ⟨hv, hu, hz, ht⟩
  obtain ⟨o, cap, ev, hc1, hc2⟩ := hv.slice
  obtain ⟨o2, cap2, eu, hd1, hd2⟩ := hu.slice
  obtain ⟨o3, cap3, ez, -, -, hzc, hzb⟩ := id hz
  obtain ⟨n, hn⟩ : ∃ n, ns.length = n := ⟨_, rfl⟩
  obtain ⟨m, hm⟩ : ∃ m, us.length = m := ⟨_, rfl⟩
  obtain ⟨p, hp⟩ : ∃ p, gl.length = p := ⟨_, rfl⟩
  have HL : Hid (ns.length = n ∧ us.length = m ∧ gl.length = p) := ⟨hn, hm, hp⟩
  have HZ : Hid ((gl = [] ∨ ∃ g off, o3 = some ⟨g, off, none⟩ ∧ g < w.heap.size ∧ ∀ j (h : j < gl.length), w.cell? ⟨g, off + j, none⟩ = some (.int .i64 gl[j])) ∧ ∀ x ∈ gl, (-9223372036854775808 : Int) ≤ x ∧ x ≤ 9223372036854775807) := ⟨hzc, hzb⟩
  rw [hn] at ev
  rw [hm] at eu
  rw [hp] at ez
  subst ev eu ez
  have hni : (n : Int) ≤ 20000 := by omega
  have hmi : (m : Int) ≤ 20000 := by omega
  have hpi : (p : Int) ≤ 20000 := by omega
  clear hv hu hz hc1 hc2 hd1 hd2 hn hm hp hnl hul ht hgl hzc hzb
  go_enter Try.func16, Try.ntmps16
  go_wp2
  go_loopw [7] (fun v7 wr => ∃ k : Nat, v7 = .int .i64 (k : Int) ∧ wr = w ∧ Hid (k ≤ p ∧ ∀ x ∈ gl.take k, badB ns.length us.length x = false)) (fun v _ => p - (intOf v).toNat)
  case atStart => exact ⟨0, rfl, rfl, ⟨Nat.zero_le _, fun x hx => by simp at hx⟩⟩
  case round =>
    obtain ⟨k, rfl, hwr, HI⟩ := hrel
    have hwr := hwr.symm
    subst hwr
    by_cases hk : k < p
    · have hkl : k < gl.length := by rw [HL.out.2.2]; exact hk
      have hki : (k : Int) < (p : Int) := by omega
      obtain ⟨g, off, rfl, hg, hcell⟩ : ∃ g off, o3 = some ⟨g, off, none⟩ ∧ g < w.heap.size ∧ w.cell? ⟨g, off + k, none⟩ = some (.int .i64 gl[k]) := by
        rcases HZ.out.1 with h | ⟨g, off, h1, h2, h3⟩
        · rw [h] at hkl; exact absurd hkl (Nat.not_lt_zero _)
        · exact ⟨g, off, h1, h2, h3 k hkl⟩
      obtain ⟨x, hx⟩ : ∃ x, gl[k] = x := ⟨_, rfl⟩
      have hxm : x ∈ gl := by rw [← hx]; exact List.getElem_mem hkl
      have hxb := HZ.out.2 x hxm
      obtain ⟨hxb1, hxb2⟩ := hxb
      have HK : Hid (k < p ∧ gl.take (k + 1) = gl.take k ++ [x] ∧ x ∈ gl) := ⟨hk, by rw [List.take_succ_eq_append_getElem hkl, hx], hxm⟩
      rw [hx] at hcell
      clear hk hkl hx hxm
      by_cases h1 : x < 0
      · have HB : Hid (selfB ns us gl = false) := selfB_bad HK.out.2.2 (by unfold badB; simp [h1])
        go_wp2
        go_ret
        exact ⟨by rw [HB.out]; rfl, Below.refl _ _⟩
      · by_cases h2 : (n : Int) ≤ x
        · have HB : Hid (selfB ns us gl = false) := selfB_bad HK.out.2.2 (by unfold badB; rw [HL.out.1]; simp [h2])
          have h2' : x ≥ (n : Int) := h2
          go_wp2
          go_ret
          exact ⟨by rw [HB.out]; rfl, Below.refl _ _⟩
        · have h2' : ¬ x ≥ (n : Int) := h2
          by_cases h3 : (m : Int) ≤ x
          · have HB : Hid (selfB ns us gl = false) := selfB_bad HK.out.2.2 (by unfold badB; rw [HL.out.2.1]; simp [h3])
            have h3' : x ≥ (m : Int) := h3
            go_wp2
            go_ret
            exact ⟨by rw [HB.out]; rfl, Below.refl _ _⟩
          · have h3' : ¬ x ≥ (m : Int) := h3
            have HB : Hid (badB ns.length us.length x = false) := by show _ = _; unfold badB; rw [HL.out.1, HL.out.2.1]; simp [h1, h2, h3]
            go_wp2
            refine ⟨⟨k + 1, by congr 1, trivial, ⟨HK.out.1, fun y hy => ?_⟩⟩, ?_⟩
            · rw [HK.out.2.1] at hy
              rcases List.mem_append.1 hy with hy | hy
              · exact HI.out.2 y hy
              · simp at hy; subst hy; exact HB.out
            · show p - ((k : Int) + 1).toNat < p - ((k : Int)).toNat
              have := HK.out.1; omega
    · have hki : ¬ (k : Int) < (p : Int) := by omega
      have HG : Hid (∀ x ∈ gl, badB ns.length us.length x = false) := by
        have h1 := HI.out.2
        rw [List.take_of_length_le (by have := HL.out.2.2; omega)] at h1
        exact h1
      clear hk HI
      by_cases hp1 : p = 1
      · have hgl1 : gl.length = 1 := by rw [HL.out.2.2]; exact hp1
        obtain ⟨x, hx⟩ := List.length_eq_one_iff.1 hgl1
        have hbx := HG.out x (by rw [hx]; simp)
        rw [HL.out.1, HL.out.2.1] at hbx
        unfold badB at hbx
        simp only [Bool.or_eq_false_iff, decide_eq_false_iff_not] at hbx
        obtain ⟨q, rfl⟩ : ∃ q : Nat, x = (q : Int) := ⟨x.toNat, by omega⟩
        have hqn : q < ns.length := by have := HL.out.1; omega
        have hqm : q < us.length := by have := HL.out.2.1; omega
        have hqi : (q : Int) < (n : Int) := by omega
        have hqj : (q : Int) < (m : Int) := by omega
        obtain ⟨g, off, rfl, hg, hcell⟩ : ∃ g off, o3 = some ⟨g, off, none⟩ ∧ g < w.heap.size ∧ w.cell? ⟨g, off, none⟩ = some (.int .i64 (q : Int)) := by
          rcases HZ.out.1 with h | ⟨g, off, h1, h2, h3⟩
          · rw [h] at hgl1; cases hgl1
          · refine ⟨g, off, h1, h2, ?_⟩
            have := h3 0 (by omega)
            rw [Nat.add_zero] at this
            rw [this]; simp [hx]
        obtain ⟨g1, off1, cp1, e1, hg1, hc1, -⟩ := HV.out.1.at hqn
        obtain ⟨rfl, -⟩ : o = some ⟨g1, off1, none⟩ ∧ True := by cases e1; exact ⟨rfl, trivial⟩
        obtain ⟨g2, off2, cp2, vj, e2, hg2, hc2, hst⟩ := HV.out.2.1.at hqm
        obtain ⟨rfl, -⟩ : o2 = some ⟨g2, off2, none⟩ ∧ True := by cases e2; exact ⟨rfl, trivial⟩
        have hlj := mem_total us q hqm
        have hself : selfB ns us gl = decide (ns[q] ∈ us[q]) := by
          rw [selfB_good HG.out, if_pos hgl1, hx]
          have e3 : ((([(q : Int)] : List Int).headD 0).toNat) = q := by simp
          rw [e3]
          have k1 : ns.getD q [] = ns[q] := by rw [List.getD_eq_getElem?_getD, List.getElem?_eq_getElem hqn, Option.getD_some]
          have k2 : us.getD q [] = us[q] := by rw [List.getD_eq_getElem?_getD, List.getElem?_eq_getElem hqm, Option.getD_some]
          rw [k1, k2]
        obtain ⟨rz, hrz⟩ : ∃ rz, ixI us[q] ns[q] = rz := ⟨_, rfl⟩
        have HC : Hid (∀ X : World, Below w.heap.size w X → Calls Try.prog 25 #[vj, .string (bs ns[q])] X fun r W' => r = .returned (.int .i64 rz) ∧ W' = X) := fun X hX => by
          rw [← hrz]
          exact rplace_c vj us[q] ns[q] (by have := HV.out.2.2.2; omega) X (hst.below hX (Nat.le_refl _))
        obtain ⟨k1, k2, k3⟩ := ixI_ge us[q] ns[q] (by have := HV.out.2.2.2; omega)
        rw [hrz] at k1 k2 k3
        have HQ : Hid (selfB ns us gl = decide (0 ≤ rz)) := by rw [hself]; show _ = _; exact decide_eq_decide.2 k1.symm
        clear hrz k1
        obtain ⟨oj, cj, rfl, -, -⟩ := hst.slice
        generalize us[q].length = lu at HC hc2
        generalize bs ns[q] = x at HC hc1
        subst hp1
        clear hst hlj e1 e2 hx hbx hgl1 hqn hqm hself
        go_wp2
        go_region_with (go_at_call 25; refine (HC.out _ (by first | exact Below.refl _ _ | exact (Below.refl _ _).drew)).mono ?_; rintro e w9 ⟨rfl, hw9⟩; subst hw9)
        all_goals (
          go_wp2
          go_ret
          exact ⟨by rw [HQ.out]; rfl, by first | exact (Below.refl _ _).drew | exact Below.refl _ _⟩)
      · have HX : Hid (selfB ns us gl = decide (1 < p)) := by
          show _ = _
          rw [selfB_good HG.out, if_neg (by rw [HL.out.2.2]; exact hp1), HL.out.2.2]
        have hp2 : ((p : Int) != 1) = true := by simp; omega
        have hp3 : ¬ (p : Int) = 1 := by omega
        clear hp1
        by_cases hp4 : 1 < p
        · have hp5 : (p : Int) > 1 := by omega
          have hp6 : (1 : Int) < (p : Int) := by omega
          go_wp2
          go_ret
          exact ⟨by rw [HX.out]; first | (rw [decide_eq_true hp4]; rfl) | (rw [decide_eq_false hp4]; rfl), Below.refl _ _⟩
        · have hp5 : ¬ (p : Int) > 1 := by omega
          have hp6 : ¬ (1 : Int) < (p : Int) := by omega
          go_wp2
          go_ret
          exact ⟨by rw [HX.out]; first | (rw [decide_eq_true hp4]; rfl) | (rw [decide_eq_false hp4]; rfl), Below.refl _ _⟩
end Go.Proofs.Ytkkpkcigflikkaa
