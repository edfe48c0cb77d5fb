/-
  The laws' small functions: SmallTexts, small, member, user, by contracts.
-/
import Derived.Test.YtkkpkcigflikkaaLb
namespace Go.Proofs.Ytkkpkcigflikkaa
open Go.RowKit Go.Shelf Go.Maps G
set_option linter.unusedVariables false

/-- What SmallTexts answers. -/
def SmP (w : World) (l : List (List UInt8)) (most : Nat) (r : Ending) (W' : World) : Prop := ∃ b : Bool, r = .returned (.bool b) ∧ (b = true → l.length ≤ most) ∧ W' = w
set_option maxHeartbeats 4000000 in
set_option maxRecDepth 100000 in
theorem smallTexts_c (v : Value) (l : List (List UInt8)) (most : Nat) (hm : most ≤ 100000) (w : World) (h : StrAt w v l) : Calls Try.prog 24 #[v, .int .i64 (most : Int), .int .i64 20000] w fun r W' => SmP w l most r W' := by
  obtain ⟨o, cap, hv, hc1, hc2⟩ := h.slice
  have HU : Hid (StrAt w v l) := h
  obtain ⟨n, hn⟩ : ∃ n, l.length = n := ⟨_, rfl⟩
  have HN : Hid (l.length = n) := hn
  have hni : (n : Int) ≤ 9223372036854775807 := by omega
  have hmi : (most : Int) ≤ 100000 := by omega
  rw [hn] at hv
  subst hv
  clear h hc1 hc2 hn
  by_cases hnm : n ≤ most
  · have hnmi : ¬ ((n : Int) > (most : Int)) := by omega
    have hnmj : ¬ ((most : Int) < (n : Int)) := by omega
    have HX : Hid (l.length ≤ most) := by have := HN.out; show _ ≤ _; omega
    go_enter Try.func24, Try.ntmps24
    go_wp2
    go_loopw [7, 8] (fun v7 v8 wr => ∃ (k : Nat) (z : Int), v7 = .int .i64 z ∧ v8 = .int .i64 (k : Int) ∧ wr = w ∧ Hid (k ≤ n)) (fun _ v _ => n - (intOf v).toNat)
    case atStart => exact ⟨0, 0, rfl, rfl, rfl, Nat.zero_le _⟩
    case round =>
      obtain ⟨k, z, rfl, rfl, hwr, HI⟩ := hrel
      have hwr := hwr.symm
      subst hwr
      by_cases hk : k < n
      · have hkl : k < l.length := by rw [HN.out]; exact hk
        obtain ⟨g, off, cp, e1, hg, hcj, hsz⟩ := HU.out.at hkl
        obtain ⟨rfl, -⟩ : o = some ⟨g, off, none⟩ ∧ True := by cases e1; exact ⟨rfl, trivial⟩
        have hki : (k : Int) < (n : Int) := by omega
        have HK : Hid (k < n) := hk
        generalize bs l[k] = nk at hcj hsz
        clear hk e1
        go_wp2
        · go_ret
          exact ⟨false, rfl, fun h => (by cases h), rfl⟩
        · refine ⟨⟨k + 1, _, rfl, by congr 1, trivial, HK.out⟩, ?_⟩
          show n - ((k : Int) + 1).toNat < n - ((k : Int)).toNat
          have := HK.out; omega
      · have hki : ¬ (k : Int) < (n : Int) := by omega
        clear hk
        go_wp2
        go_ret
        exact ⟨true, rfl, fun _ => HX.out, rfl⟩
  · have hnmi : ((n : Int) > (most : Int)) := by omega
    have hnmj : ((most : Int) < (n : Int)) := by omega
    clear hnm
    go_enter Try.func24, Try.ntmps24
    go_wp2
    go_ret
    exact ⟨false, rfl, fun h => (by cases h), rfl⟩

set_option maxHeartbeats 4000000 in
set_option maxRecDepth 100000 in
theorem member_c (v : Value) (l : List Nat) (x : Nat) (hx : x ≤ 1000000) (hl : l.length ≤ 1000000) (hb : ∀ y ∈ l, y ≤ 1000000) (w : World) (h : RowAt w w.heap.size v l) : Calls Try.prog 39 #[v, .int .i64 (x : Int)] w fun r W' => r = .returned (.bool (decide (x ∈ l))) ∧ W' = w := by
  obtain ⟨o, cap, hv, hc1, hc2⟩ := h.slice
  have HU : Hid (RowAt w w.heap.size v l ∧ ∀ y ∈ l, y ≤ 1000000) := ⟨h, hb⟩
  obtain ⟨n, hn⟩ : ∃ n, l.length = n := ⟨_, rfl⟩
  have HN : Hid (l.length = n) := hn
  have hni : (n : Int) ≤ 1000000 := by omega
  have hxi : (x : Int) ≤ 1000000 := by omega
  rw [hn] at hv
  subst hv
  clear h hc1 hc2 hn hl hb
  go_enter Try.func39, Try.ntmps39
  go_wp2
  go_loopw [5] (fun v5 wr => ∃ k : Nat, v5 = .int .i64 (k : Int) ∧ wr = w ∧ Hid (k ≤ n ∧ x ∉ l.take k)) (fun v _ => n - (intOf v).toNat)
  case atStart => exact ⟨0, rfl, rfl, ⟨Nat.zero_le _, by simp⟩⟩
  case round =>
    obtain ⟨k, rfl, hwr, HI⟩ := hrel
    have hwr := hwr.symm
    subst hwr
    by_cases hk : k < n
    · have hkl : k < l.length := by rw [HN.out]; exact hk
      obtain ⟨g, cp, e1, -, -, -, hg, hcj⟩ := HU.out.1.at hkl
      obtain ⟨rfl, -⟩ : o = some ⟨g, 0, none⟩ ∧ True := by cases e1; exact ⟨rfl, trivial⟩
      have hki : (k : Int) < (n : Int) := by omega
      obtain ⟨y, hy⟩ : ∃ y, l[k] = y := ⟨_, rfl⟩
      have HK : Hid (k < n ∧ l.take (k + 1) = l.take k ++ [y] ∧ y ∈ l) := ⟨hk, by rw [List.take_succ_eq_append_getElem hkl, hy], by rw [← hy]; exact List.getElem_mem hkl⟩
      rw [hy] at hcj
      have hcj2 : w.cell? ⟨g, k, none⟩ = some (.int .i64 (y : Int)) := hcj
      clear hk e1 hcj hkl hy
      by_cases hxy : y = x
      · subst hxy
        go_wp2
        go_ret
        exact ⟨by simp [HK.out.2.2], rfl⟩
      · have h1 : ¬ ((y : Int) = (x : Int)) := by omega
        have h2 : ((y : Int) == (x : Int)) = false := by simp; omega
        have HX : Hid (¬ y = x) := hxy
        clear hxy
        go_wp2
        refine ⟨⟨k + 1, by congr 1, trivial, ⟨HK.out.1, ?_⟩⟩, ?_⟩
        · rw [HK.out.2.1]
          intro h9
          rcases List.mem_append.1 h9 with h9 | h9
          · exact HI.out.2 h9
          · simp at h9; exact HX.out h9.symm
        · show n - ((k : Int) + 1).toNat < n - ((k : Int)).toNat
          have := HK.out.1; omega
    · have hki : ¬ (k : Int) < (n : Int) := by omega
      have HX : Hid (x ∉ l) := by
        have h1 := HI.out.2
        rw [List.take_of_length_le (by have := HN.out; omega)] at h1
        exact h1
      clear hk
      go_wp2
      go_ret
      exact ⟨by simp [HX.out], rfl⟩
set_option maxHeartbeats 4000000 in
set_option maxRecDepth 100000 in
theorem user_c (v u : Value) (ns : List (List UInt8)) (us : List (List (List UInt8))) (a b : Nat) (hnl : ns.length ≤ 20000) (hul : us.length ≤ 20000) (ha : a < us.length) (hb : b < ns.length) (ht : total us ≤ 200000) (w : World) (hv : StrAt w v ns) (hu : UseAt w u us) : Calls Try.prog 38 #[v, u, .int .i64 (a : Int), .int .i64 (b : Int)] w fun r W' => r = .returned (.bool (decide (ns[b] ∈ us[a]))) ∧ Below w.heap.size w W' := by
  obtain ⟨o, cap, ev, hc1, hc2⟩ := hv.slice
  obtain ⟨o2, cap2, eu, hd1, hd2⟩ := hu.slice
  obtain ⟨g1, off1, cp1, e1, hg1, hcell1, hsz1⟩ := hv.at hb
  obtain ⟨g2, off2, cp2, vj, e2, hg2, hcell2, hst⟩ := hu.at ha
  have HU : Hid (StrAt w vj us[a]) := hst
  have hlj := mem_total us a ha
  obtain ⟨o3, cap3, rfl, hf1, hf2⟩ := hst.slice
  generalize us[a] = ua at *
  have HNB : Hid (bs ns[b] = bs ns[b]) := rfl
  generalize hnb : ns[b] = nb at *
  obtain ⟨rfl, -⟩ : o = some ⟨g1, off1, none⟩ ∧ True := by rw [ev] at e1; cases e1; exact ⟨rfl, trivial⟩
  obtain ⟨rfl, -⟩ : o2 = some ⟨g2, off2, none⟩ ∧ True := by rw [eu] at e2; cases e2; exact ⟨rfl, trivial⟩
  obtain ⟨n, hn⟩ : ∃ n, ns.length = n := ⟨_, rfl⟩
  obtain ⟨m, hm⟩ : ∃ m, us.length = m := ⟨_, rfl⟩
  obtain ⟨p, hp⟩ : ∃ p, ua.length = p := ⟨_, rfl⟩
  have HN : Hid (ua.length = p) := hp
  rw [hn] at ev
  rw [hm] at eu
  rw [hp] at hcell2 HU
  subst ev eu
  have hni : (n : Int) ≤ 20000 := by omega
  have hmi : (m : Int) ≤ 20000 := by omega
  have hpi : (p : Int) ≤ 200000 := by omega
  have hai : (a : Int) < (m : Int) := by omega
  have hbi : (b : Int) < (n : Int) := by omega
  clear hv hu hst hc1 hc2 hd1 hd2 hf1 hf2 e1 e2 hn hm hp hlj hnb HNB ht hnl hul ha hb
  go_enter Try.func38, Try.ntmps38
  go_wp2
  go_loopw [9] (fun v5 wr => ∃ k : Nat, v5 = .int .i64 (k : Int) ∧ Hid (k ≤ p ∧ nb ∉ ua.take k ∧ Below w.heap.size w wr)) (fun v _ => p - (intOf v).toNat)
  case atStart => exact ⟨0, rfl, ⟨Nat.zero_le _, by simp, Below.refl _ _⟩⟩
  case round =>
    obtain ⟨k, rfl, HI⟩ := hrel
    have hgw1 : g1 < wr.heap.size := Nat.lt_of_lt_of_le hg1 HI.out.2.2.size
    have hgw2 : g2 < wr.heap.size := Nat.lt_of_lt_of_le hg2 HI.out.2.2.size
    have hcw1 : wr.cell? ⟨g1, off1 + b, none⟩ = some (.string (bs nb)) := (HI.out.2.2.cell (p := ⟨g1, off1 + b, none⟩) hg1).trans hcell1
    have hcw2 : wr.cell? ⟨g2, off2 + a, none⟩ = some (.slice o3 p cap3) := (HI.out.2.2.cell (p := ⟨g2, off2 + a, none⟩) hg2).trans hcell2
    by_cases hk : k < p
    · have hkl : k < ua.length := by rw [HN.out]; exact hk
      obtain ⟨g, off, cp, e1, hg, hcj, hsz⟩ := HU.out.at hkl
      obtain ⟨rfl, -⟩ : o3 = some ⟨g, off, none⟩ ∧ True := by cases e1; exact ⟨rfl, trivial⟩
      have hki : (k : Int) < (p : Int) := by omega
      obtain ⟨y, hy⟩ : ∃ y, ua[k] = y := ⟨_, rfl⟩
      have HK : Hid (k < p ∧ ua.take (k + 1) = ua.take k ++ [y] ∧ y ∈ ua) := ⟨hk, by rw [List.take_succ_eq_append_getElem hkl, hy], by rw [← hy]; exact List.getElem_mem hkl⟩
      rw [hy] at hcj
      have hcw : wr.cell? ⟨g, off + k, none⟩ = some (.string (bs y)) := (HI.out.2.2.cell (p := ⟨g, off + k, none⟩) hg).trans hcj
      have hgw : g < wr.heap.size := Nat.lt_of_lt_of_le hg HI.out.2.2.size
      clear hk e1 hcj hkl hy hsz
      by_cases hxy : y = nb
      · subst hxy
        have h0 : ((bs y).toList == (bs y).toList) = true := by simp
        clear hcell1 hcell2
        go_wp2
        go_region
        go_wp2
        go_ret
        exact ⟨by simp [HK.out.2.2], HI.out.2.2.drew⟩
      · have h0 : ((bs y).toList == (bs nb).toList) = false := by rw [beq_eq_false_iff_ne, ByteArray.toList_eq, ByteArray.toList_eq]; exact hxy
        have HX : Hid (¬ y = nb) := hxy
        clear hcell1 hcell2 hxy
        go_wp2
        go_region
        go_wp2
        refine ⟨⟨k + 1, by congr 1, ⟨HK.out.1, ?_, HI.out.2.2.drew⟩⟩, ?_⟩
        · rw [HK.out.2.1]
          intro h9
          rcases List.mem_append.1 h9 with h9 | h9
          · exact HI.out.2.1 h9
          · simp at h9; exact HX.out h9.symm
        · show p - ((k : Int) + 1).toNat < p - ((k : Int)).toNat
          have := HK.out.1; omega
    · have hki : ¬ (k : Int) < (p : Int) := by omega
      have HX : Hid (nb ∉ ua) := by
        have h1 := HI.out.2.1
        rw [List.take_of_length_le (by have := HN.out; omega)] at h1
        exact h1
      clear hk hcell1 hcell2
      go_wp2
      go_ret
      exact ⟨by simp [HX.out], HI.out.2.2⟩
theorem wrapN (t p : Nat) (h1 : (t : Int) ≤ 100000) (h2 : p ≤ 600) : wrap64 ((t : Int) + (p : Int)) = ((t + p : Nat) : Int) := by unfold wrap64; omega
/-- What small answers. -/
def SlP (w : World) (ns : List (List UInt8)) (us : List (List (List UInt8))) (r : Ending) (W' : World) : Prop := ∃ b : Bool, r = .returned (.bool b) ∧ (b = true → ns.length ≤ 150 ∧ us.length ≤ 150 ∧ total us ≤ 600) ∧ W' = w
set_option maxHeartbeats 4000000 in
set_option maxRecDepth 100000 in
theorem small_c (v u : Value) (ns : List (List UInt8)) (us : List (List (List UInt8))) (w : World) (hv : StrAt w v ns) (hu : UseAt w u us) : Calls Try.prog 9 #[v, u] w fun r W' => SlP w ns us r W' := by
  obtain ⟨o, cap, ev, hc1, hc2⟩ := hv.slice
  obtain ⟨o2, cap2, eu, hd1, hd2⟩ := hu.slice
  have HN : Hid (Calls Try.prog 24 #[v, .int .i64 150, .int .i64 20000] w fun r W' => SmP w ns 150 r W') := smallTexts_c v ns 150 (by omega) w hv
  have HU : Hid (UseAt w u us) := hu
  obtain ⟨n, hn⟩ : ∃ n, ns.length = n := ⟨_, rfl⟩
  obtain ⟨m, hm⟩ : ∃ m, us.length = m := ⟨_, rfl⟩
  have HL : Hid (ns.length = n ∧ us.length = m) := ⟨hn, hm⟩
  have hni : (n : Int) ≤ 9223372036854775807 := by omega
  have hmi : (m : Int) ≤ 9223372036854775807 := by omega
  rw [hn] at ev
  rw [hm] at eu
  subst ev eu
  clear hv hu hc1 hc2 hd1 hd2 hn hm
  go_enter Try.func9, Try.ntmps9
  go_wp2
  go_loopw [5, 6] (fun v5 v6 wr => ∃ k t : Nat, v5 = .int .i64 (t : Int) ∧ v6 = .int .i64 (k : Int) ∧ wr = w ∧ Hid (k ≤ m ∧ k ≤ 151 ∧ t = total (us.take k) ∧ t ≤ k * 600)) (fun _ v _ => m - (intOf v).toNat)
  case atStart => exact ⟨0, 0, rfl, rfl, rfl, ⟨Nat.zero_le _, by omega, rfl, by omega⟩⟩
  case round =>
    obtain ⟨k, t, rfl, rfl, hwr, HI⟩ := hrel
    have hwr := hwr.symm
    subst hwr
    have hti : (t : Int) ≤ 100000 := by have := HI.out; omega
    by_cases hk : k < m
    · have hki : (k : Int) < (m : Int) := by omega
      by_cases hk2 : k ≤ 150
      · have hkl : k < us.length := by rw [HL.out.2]; exact hk
        have hki2 : (k : Int) ≤ 150 := by omega
        obtain ⟨g, off, cp, vj, e1, hg, hcj, hst⟩ := HU.out.at hkl
        have HC : Hid (Calls Try.prog 24 #[vj, .int .i64 600, .int .i64 20000] w fun r W' => SmP w us[k] 600 r W') := smallTexts_c vj us[k] 600 (by omega) w hst
        obtain ⟨oj, cj, rfl, hj1, hj2⟩ := hst.slice
        have HT : Hid (total (us.take (k + 1)) = total (us.take k) + us[k].length) := total_take us k hkl
        obtain ⟨p, hp⟩ : ∃ p, us[k].length = p := ⟨_, rfl⟩
        have HM : Hid (us[k].length = p ∧ k < m ∧ k ≤ 150) := ⟨hp, hk, hk2⟩
        rw [hp] at hcj HC
        obtain ⟨rfl, -⟩ : o2 = some ⟨g, off, none⟩ ∧ True := by cases e1; exact ⟨rfl, trivial⟩
        have hpi : (p : Int) ≤ 9223372036854775807 := by omega
        clear hst hp hk hk2 e1 hj1 hj2
        go_wp2_with (go_at_call 24; fail)
        refine HC.out.mono ?_
        rintro e w1 ⟨b, rfl, hb, hw1⟩
        have hw2 := hw1.symm
        subst hw2
        have HB : Hid (b = true → us[k].length ≤ 600) := hb
        clear hb hw1
        cases b with
        | false =>
          go_wp2
          go_ret
          exact ⟨false, rfl, fun h => (by cases h), rfl⟩
        | true =>
          have hp6 : p ≤ 600 := by have := HB.out rfl; have := HM.out.1; omega
          go_wp2
          refine ⟨⟨k + 1, t + p, by rw [wrapN t p hti hp6], by congr 1, trivial, ?_⟩, ?_⟩
          · have h1 := HI.out; have h2 := HT.out; have h3 := HM.out
            exact ⟨by omega, by omega, by omega, by omega⟩
          · show m - ((k : Int) + 1).toNat < m - ((k : Int)).toNat
            have := HM.out.2; omega
      · have hki2 : ¬ (k : Int) ≤ 150 := by omega
        have hmm : ¬ (m : Int) ≤ 150 := by omega
        clear hk hk2
        go_wp2
        go_ret
        exact ⟨false, rfl, fun h => (by cases h), rfl⟩
    · have hki : ¬ (k : Int) < (m : Int) := by omega
      have HK : Hid (total us = t ∧ m ≤ 151) := by
        have h1 := HI.out
        rw [List.take_of_length_le (by have := HL.out; omega)] at h1
        exact ⟨h1.2.2.1.symm, by omega⟩
      clear hk
      by_cases hm1 : m ≤ 150
      · have hmm : (m : Int) ≤ 150 := by omega
        by_cases ht1 : t ≤ 600
        · have htt : (t : Int) ≤ 600 := by omega
          have HX : Hid (us.length ≤ 150 ∧ total us ≤ 600) := ⟨by have := HL.out; omega, by have := HK.out; omega⟩
          clear hm1 ht1
          go_wp2_with (go_at_call 24; fail)
          refine HN.out.mono ?_
          rintro e w1 ⟨b, rfl, hb, hw1⟩
          have hw2 := hw1.symm
          subst hw2
          have HB : Hid (b = true → ns.length ≤ 150) := hb
          clear hb hw1
          go_wp2
          go_ret
          exact ⟨b, rfl, fun h => ⟨HB.out h, HX.out.1, HX.out.2⟩, rfl⟩
        · have htt : ¬ (t : Int) ≤ 600 := by omega
          clear hm1 ht1
          go_wp2
          go_ret
          exact ⟨false, rfl, fun h => (by cases h), rfl⟩
      · have hmm : ¬ (m : Int) ≤ 150 := by omega
        clear hm1
        go_wp2
        go_ret
        exact ⟨false, rfl, fun h => (by cases h), rfl⟩
end Go.Proofs.Ytkkpkcigflikkaa
