/-
  GroupsSound: the law's walk.
-/
import Derived.Test.YtkkpkcigflikkaaOd
import Derived.Test.YtkkpkcigflikkaaNd
namespace Go.Proofs.Ytkkpkcigflikkaa
open Go.RowKit Go.Shelf Go.Maps G
set_option linter.unusedVariables false

theorem IntsAt.on {W W' : World} {v : Value} {ll : List (List Nat)} (h : IntsAt W v ll) {m : Nat} (hb : Below m W W') (hm : W.heap.size ≤ m) : IntsAt W' v ll := by
  obtain ⟨o, cap, h1, h2, h3, h4⟩ := h
  refine ⟨o, cap, h1, h2, ?_, h4⟩
  rcases h3 with h3 | ⟨g, e, hg, h3⟩
  · exact .inl h3
  · exact .inr ⟨g, e, Nat.lt_of_lt_of_le hg hb.size, fun j hj => by
      obtain ⟨vj, h6, h7⟩ := h3 j hj
      exact ⟨vj, (hb.cell (p := ⟨g, j, none⟩) (by show g < m; omega)).trans h6, h7.on hb hm⟩⟩
def lsum (ll : List (List Nat)) : Nat := (ll.map List.length).sum
theorem lsum_take (us : List (List Nat)) (k : Nat) (hk : k < us.length) : lsum (us.take (k + 1)) = lsum (us.take k) + us[k].length := by
  unfold lsum
  rw [List.take_add_one, List.getElem?_eq_getElem hk, List.map_append, List.sum_append]
  simp only [Option.toList_some, List.map_cons, List.map_nil, List.sum_cons, List.sum_nil, Nat.add_zero]
theorem lsum_le (us : List (List Nat)) (k : Nat) : lsum (us.take k) ≤ lsum us := by
  unfold lsum
  have h : us = us.take k ++ us.drop k := (List.take_append_drop k us).symm
  conv => rhs; rw [h, List.map_append, List.sum_append]
  exact Nat.le_add_right _ _
set_option maxHeartbeats 16000000 in
set_option maxRecDepth 100000 in
theorem lawSound_c (v u : Value) (ns : List (List UInt8)) (us : List (List (List UInt8))) (w : World) (hv : StrAt w v ns) (hu : UseAt w u us) : Calls Try.prog 5 #[v, u] w fun r W' => r = .returned (.bool true) ∧ Below w.heap.size w W' := by
  have hdep : Try.prog.follows Departure.mixedOrders = true := by kernel_rfl
  have HV : Hid (StrAt w v ns ∧ UseAt w u us) := ⟨hv, hu⟩
  obtain ⟨o, cap, ev, hc1, hc2⟩ := hv.slice
  obtain ⟨o2, cap2, eu, hd1, hd2⟩ := hu.slice
  obtain ⟨n, hn⟩ : ∃ n, ns.length = n := ⟨_, rfl⟩
  obtain ⟨m, hm⟩ : ∃ m, us.length = m := ⟨_, rfl⟩
  have HL : Hid (ns.length = n ∧ us.length = m) := ⟨hn, hm⟩
  rw [hn] at ev
  rw [hm] at eu
  subst ev eu
  clear hv hu hc1 hc2 hd1 hd2 hn hm
  go_enter Try.func5, Try.ntmps5
  go_wp2_with (go_at_call 7; fail)
  refine (lives_c _).mono ?_
  rintro e w1 ⟨rfl, hb1⟩
  have Hb1 : Hid (Below w.heap.size w w1) := hb1
  clear hb1
  go_wp2_with (go_at_call 9; fail)
  refine (small_c _ _ ns us w1 (HV.out.1.below Hb1.out (Nat.le_refl _)) (HV.out.2.below Hb1.out (Nat.le_refl _))).mono ?_
  rintro e w2 ⟨b, rfl, hb, hw2⟩
  have hw3 := hw2.symm
  subst hw3
  clear hw2
  cases b with
  | false =>
    go_wp2
    go_ret
    exact ⟨rfl, Hb1.out⟩
  | true =>
    have HS : Hid (ns.length ≤ 150 ∧ us.length ≤ 150 ∧ total us ≤ 600) := hb rfl
    clear hb
    go_wp2_with (go_at_call 6; fail)
    refine (of_c _ _ ns us (by have := HS.out; omega) (by have := HS.out; omega) (by have := HS.out; omega) w1 (HV.out.1.below Hb1.out (Nat.le_refl _)) (HV.out.2.below Hb1.out (Nat.le_refl _))).mono ?_
    rintro e w2 hP
    rcases hP with ⟨hlu, hnd, low, grp, S, av, gv, rfl, p1, p2, p3, p4, p5⟩ | ⟨h1, rfl, p5⟩
    · obtain ⟨ao, ac, rfl, -, -⟩ := owns_form p3
      obtain ⟨ll, hll⟩ : ∃ ll, S.map grp = ll := ⟨_, rfl⟩
      obtain ⟨P, hPP⟩ : ∃ P, pos low S = P := ⟨_, rfl⟩
      have hsn := snOK_of hnd hlu p1 p2
      rw [hll, hPP] at hsn
      have hSl : S.length = ll.length := by rw [← hll, List.length_map]
      rw [hSl] at p3 ⊢
      have hia : IntsAt w2 (.slice ao ll.length ac) ll := ints_of (by rw [hSl]; exact p3) p4 (fun g hg => ((p2.all g).1 hg).1) hll ⟨by have := hsn.len; have := HS.out; omega, fun l hl => ⟨by have := (hsn.whl l hl).2.1; have := HS.out; omega, fun x hx => by have := (hsn.whl l hl).2.2.1 x hx; have := HS.out; omega⟩⟩
      have HB2 : Hid (Below w.heap.size w w2) := Hb1.out.trans (p5.mono Hb1.out.size)
      have HSn : Hid (SnOK ns us ll P ∧ IntsAt w2 (.slice ao ll.length ac) ll ∧ ns.Nodup ∧ ns.length = us.length) := ⟨hsn, hia, hnd, hlu⟩
      obtain ⟨q, hq⟩ : ∃ q, ll.length = q := ⟨_, rfl⟩
      have HQ : Hid (ll.length = q) := hq
      rw [hq] at HSn ⊢
      have hqi : (q : Int) ≤ 150 := by have := hsn.len; have := HS.out; omega
      have hni : (n : Int) ≤ 150 := by have := HL.out; have := HS.out; omega
      have hmn : m = n := by have := HL.out; omega
      subst hmn
      clear hsn hia p1 p2 p3 p4 p5 hll hPP hSl hq hnd hlu Hb1
      have HPl : Hid (∀ (X : World) (x : Nat), Below w2.heap.size w2 X → x < ns.length → Calls Try.prog 17 #[.slice ao q ac, .int .i64 (x : Int)] X fun r W' => r = .returned (.int .i64 (P x : Int)) ∧ W' = X) := fun X x hX hx => by
        obtain ⟨h1, h2, h3⟩ := HSn.out.1.plc x hx
        exact place_c _ ll x (P x) h1 h2 h3 (by have := HS.out; omega) X (HSn.out.2.1.on hX (Nat.le_refl _))
      have HWh : Hid (∀ (X : World) (l : List Nat) (z : Value), Below w2.heap.size w2 X → l ∈ ll → RowAt X X.heap.size z l → Calls Try.prog 18 #[.slice o m cap, .slice o2 m cap2, z] X fun r W' => r = .returned (.bool true) ∧ Below X.heap.size X W') := fun X l z hX hl hz => by
        obtain ⟨h1, h2, h3, h4, h5⟩ := HSn.out.1.whl l hl
        have hwX := HB2.out.trans (hX.mono HB2.out.size)
        exact whole_c _ _ z ns us l (by have := HS.out; omega) HSn.out.2.2.2 (by have := HS.out; omega) h1 (by have := HS.out; omega) h3 h4 h5 X (HV.out.1.below hwX (Nat.le_refl _)) (HV.out.2.below hwX (Nat.le_refl _)) hz
      go_wp2
      go_loopw [7, 8] (fun v7 v8 wr => ∃ t k : Nat, v7 = .int .i64 (t : Int) ∧ v8 = .int .i64 (k : Int) ∧ wr = w2 ∧ Hid (k ≤ q ∧ t = lsum (ll.take k))) (fun _ v _ => q - (intOf v).toNat)
      case atStart => exact ⟨0, 0, rfl, rfl, rfl, ⟨Nat.zero_le _, rfl⟩⟩
      case round =>
        obtain ⟨t, k, rfl, rfl, hwr, HI⟩ := hrel
        have hwr := hwr.symm
        subst hwr
        have hti : (t : Int) ≤ 150 := by have h1 := HI.out.2; have h2 := lsum_le ll k; have h3 := HSn.out.1.sum; have h4 := HS.out.1; have h5 : lsum ll = ns.length := h3; omega
        by_cases hk : k < q
        · have hkl : k < ll.length := by rw [HQ.out]; exact hk
          have hki : (k : Int) < (q : Int) := by omega
          obtain ⟨g1, c1, v1, e1, l1, r1, s1, t1⟩ := HSn.out.2.1.at hkl
          obtain ⟨rfl, -⟩ : ao = some ⟨g1, 0, none⟩ ∧ True := by cases e1; exact ⟨rfl, trivial⟩
          obtain ⟨o5, c5, rfl, -, -⟩ := s1.slice
          obtain ⟨y, hy⟩ : ∃ y, ll[k].length = y := ⟨_, rfl⟩
          rw [hy] at r1
          have HY : Hid (k < q ∧ lsum (ll.take (k + 1)) = lsum (ll.take k) + y) := ⟨hk, by rw [← hy]; exact lsum_take ll k hkl⟩
          have hyi : (y : Int) ≤ 150 := by have := (HSn.out.1.whl _ (List.getElem_mem hkl)).2.1; have := HS.out.1; omega
          clear e1 s1 t1 hy hk hkl
          go_wp2
          refine ⟨⟨t + y, k + 1, by congr 1, by congr 1, trivial, ⟨HY.out.1, by rw [HY.out.2, HI.out.2]⟩⟩, ?_⟩
          show q - ((k : Int) + 1).toNat < q - ((k : Int)).toNat
          have := HY.out.1; omega
        · have hki : ¬ (k : Int) < (q : Int) := by omega
          have htn : t = m := by
            have h1 := HI.out.2
            rw [List.take_of_length_le (by have := HQ.out; omega)] at h1
            have h3 : lsum ll = ns.length := HSn.out.1.sum
            have := HL.out.1
            omega
          subst htn
          clear hk HI
          go_wp2
          go_loopw [9] (fun v9 wr => ∃ i : Nat, v9 = .int .i64 (i : Int) ∧ Hid (i ≤ t ∧ Below w2.heap.size w2 wr)) (fun v _ => t - (intOf v).toNat)
          case atStart => exact ⟨0, rfl, ⟨Nat.zero_le _, Below.refl _ _⟩⟩
          case round =>
            obtain ⟨i, rfl, HI⟩ := hrel
            by_cases hi : i < t
            · have hii : (i : Int) < (t : Int) := by omega
              have hin : i < ns.length := by have := HL.out.1; omega
              have him : i < us.length := by have := HL.out.2; omega
              have HT : Hid (i < t ∧ i < ns.length ∧ i < us.length) := ⟨hi, hin, him⟩
              obtain ⟨g1, off1, cp1, vj, e1, hg1, hcell1, hst⟩ := HV.out.2.at him
              have hlj := mem_total us i him
              obtain ⟨rfl, -⟩ : o2 = some ⟨g1, off1, none⟩ ∧ True := by cases e1; exact ⟨rfl, trivial⟩
              obtain ⟨o3, cap3, rfl, -, -⟩ := hst.slice
              obtain ⟨ua, hua⟩ : ∃ ua, us[i] = ua := ⟨_, rfl⟩
              rw [hua] at hst hcell1 hlj
              obtain ⟨p, hp⟩ : ∃ p, ua.length = p := ⟨_, rfl⟩
              rw [hp] at hst hcell1 hlj
              have hpi : (p : Int) ≤ 600 := by have := HS.out; omega
              have HU : Hid (StrAt w (.slice o3 p cap3) ua ∧ us[i]? = some ua ∧ ua.length = p ∧ g1 < w.heap.size ∧ w.cell? ⟨g1, off1 + i, none⟩ = some (.slice o3 p cap3)) := ⟨hst, by rw [List.getElem?_eq_getElem him, hua], hp, hg1, hcell1⟩
              obtain ⟨Pi, hPi⟩ : ∃ Pi, P i = Pi := ⟨_, rfl⟩
              have hPq : (Pi : Int) ≤ 150 := by obtain ⟨h1, -⟩ := HSn.out.1.plc i hin; have := HQ.out; omega
              have HPi : Hid (P i = Pi) := hPi
              clear hst hua hp hcell1 hlj e1 hi hin him hg1
              go_wp2_with (go_at_call 17; fail)
              refine (HPl.out _ i HI.out.2 HT.out.2.1).mono ?_
              rintro e w3 ⟨rfl, hw3⟩
              have hw4 := hw3.symm
              subst hw4
              rw [hPi]
              clear hw3 hPi
              obtain ⟨wo, hwo⟩ : ∃ wo, wo = wr := ⟨_, rfl⟩
              subst hwo
              have hcw0 : wo.cell? ⟨g1, off1 + i, none⟩ = some (.slice o3 p cap3) := ((HB2.out.trans (HI.out.2.mono HB2.out.size)).cell (p := ⟨g1, off1 + i, none⟩) HU.out.2.2.2.1).trans HU.out.2.2.2.2
              have hgw0 : g1 < wo.heap.size := Nat.lt_of_lt_of_le HU.out.2.2.2.1 (HB2.out.trans (HI.out.2.mono HB2.out.size)).size
              go_wp2
              clear hcw0 hgw0
              go_loopw [11] (fun v11 wr => ∃ k : Nat, v11 = .int .i64 (k : Int) ∧ Hid (k ≤ p ∧ Below w2.heap.size w2 wr)) (fun v _ => p - (intOf v).toNat)
              case atStart => exact ⟨0, rfl, ⟨Nat.zero_le _, HI.out.2⟩⟩
              case round =>
                clear HI
                obtain ⟨k, rfl, HI⟩ := hrel
                have hbw : Below w.heap.size w wr := HB2.out.trans (HI.out.2.mono HB2.out.size)
                have hcw1 : wr.cell? ⟨g1, off1 + i, none⟩ = some (.slice o3 p cap3) := (hbw.cell (p := ⟨g1, off1 + i, none⟩) HU.out.2.2.2.1).trans HU.out.2.2.2.2
                have hgw1 : g1 < wr.heap.size := Nat.lt_of_lt_of_le HU.out.2.2.2.1 hbw.size
                clear hbw
                by_cases hk : k < p
                · have hki : (k : Int) < (p : Int) := by omega
                  have hkl : k < ua.length := by have := HU.out.2.2.1; omega
                  obtain ⟨g2, off2, cp2, e2, hg2, hcell2, -⟩ := HU.out.1.at hkl
                  obtain ⟨rfl, -⟩ : o3 = some ⟨g2, off2, none⟩ ∧ True := by cases e2; exact ⟨rfl, trivial⟩
                  obtain ⟨y, hy⟩ : ∃ y, ua[k] = y := ⟨_, rfl⟩
                  have HY : Hid (k < p ∧ y ∈ ua ∧ g2 < w.heap.size ∧ w.cell? ⟨g2, off2 + k, none⟩ = some (.string (bs y))) := ⟨hk, by rw [← hy]; exact List.getElem_mem hkl, hg2, by rw [← hy]; exact hcell2⟩
                  clear e2 hg2 hcell2 hy hk hkl
                  obtain ⟨wo, hwo⟩ : ∃ wo, wo = wr := ⟨_, rfl⟩
                  subst hwo
                  go_wp2
                  clear hcw1 hgw1
                  go_loopw [12] (fun v12 wr => ∃ x : Nat, v12 = .int .i64 (x : Int) ∧ Hid (x ≤ t ∧ Below w2.heap.size w2 wr)) (fun v _ => t - (intOf v).toNat)
                  case atStart => exact ⟨0, rfl, ⟨Nat.zero_le _, HI.out.2⟩⟩
                  case round =>
                    clear HI
                    obtain ⟨x, rfl, HI⟩ := hrel
                    by_cases hx : x < t
                    · have hxi : (x : Int) < (t : Int) := by omega
                      have hxl : x < ns.length := by have := HL.out.1; omega
                      have hbw : Below w.heap.size w wr := HB2.out.trans (HI.out.2.mono HB2.out.size)
                      have hcw1 : wr.cell? ⟨g1, off1 + i, none⟩ = some (.slice (some ⟨g2, off2, none⟩) p cap3) := (hbw.cell (p := ⟨g1, off1 + i, none⟩) HU.out.2.2.2.1).trans HU.out.2.2.2.2
                      have hgw1 : g1 < wr.heap.size := Nat.lt_of_lt_of_le HU.out.2.2.2.1 hbw.size
                      have hcw2 : wr.cell? ⟨g2, off2 + k, none⟩ = some (.string (bs y)) := (hbw.cell (p := ⟨g2, off2 + k, none⟩) HY.out.2.2.1).trans HY.out.2.2.2
                      have hgw2 : g2 < wr.heap.size := Nat.lt_of_lt_of_le HY.out.2.2.1 hbw.size
                      obtain ⟨g3, off3, cp3, e3, hg3, hcell3, -⟩ := HV.out.1.at hxl
                      obtain ⟨rfl, -⟩ : o = some ⟨g3, off3, none⟩ ∧ True := by cases e3; exact ⟨rfl, trivial⟩
                      obtain ⟨z, hz⟩ : ∃ z, ns[x] = z := ⟨_, rfl⟩
                      have hcw3 : wr.cell? ⟨g3, off3 + x, none⟩ = some (.string (bs z)) := by rw [← hz]; exact (hbw.cell (p := ⟨g3, off3 + x, none⟩) hg3).trans hcell3
                      have hgw3 : g3 < wr.heap.size := Nat.lt_of_lt_of_le hg3 hbw.size
                      have HX : Hid (x < t ∧ x < ns.length ∧ ns[x]? = some z) := ⟨hx, hxl, by rw [List.getElem?_eq_getElem hxl, hz]⟩
                      clear e3 hg3 hcell3 hz hbw hx hxl
                      by_cases hzy : z = y
                      · subst hzy
                        have h0 : ((bs z).toList == (bs z).toList) = true := by simp
                        obtain ⟨Px, hPx⟩ : ∃ Px, P x = Px := ⟨_, rfl⟩
                        have hPle : (Px : Int) ≤ (Pi : Int) := by
                          have h1 := HX.out
                          have h2 := List.getElem?_eq_some_iff.1 h1.2.2
                          have h3 := List.getElem?_eq_some_iff.1 HU.out.2.1
                          have h4 := HSn.out.1.ord i x HT.out.2.1 h1.2.1 ((mem_adjF HSn.out.2.2.1 HT.out.2.2 h1.2.1).2 (by rw [h2.2, h3.2]; exact HY.out.2.1))
                          have := HPi.out
                          omega
                        have hPle2 : ¬ (Px : Int) > (Pi : Int) := by omega
                        have HC : Hid (∀ X : World, Below wr.heap.size wr X → Calls Try.prog 17 #[.slice ao q ac, .int .i64 (x : Int)] X fun r W' => r = .returned (.int .i64 (Px : Int)) ∧ W' = X) := fun X hX => by
                          have h1 := HPl.out X x (HI.out.2.trans (hX.mono HI.out.2.size)) HX.out.2.1
                          rw [hPx] at h1
                          exact h1
                        clear hPx
                        go_wp2
                        go_region_with (go_at_call 17; refine (HC.out _ (by first | exact Below.refl _ _ | exact (Below.refl _ _).drew)).mono ?_; rintro e w9 ⟨rfl, hw9⟩; subst hw9)
                        all_goals (
                          go_wp2
                          refine ⟨⟨x + 1, by congr 1, ⟨HX.out.1, by first | exact HI.out.2.drew | exact HI.out.2⟩⟩, ?_⟩
                          show t - ((x : Int) + 1).toNat < t - ((x : Int)).toNat
                          have := HX.out.1; omega)
                      · have h0 : ((bs z).toList == (bs y).toList) = false := by rw [beq_eq_false_iff_ne, ByteArray.toList_eq, ByteArray.toList_eq]; exact hzy
                        clear hzy
                        go_wp2
                        go_region
                        all_goals (
                          go_wp2
                          refine ⟨⟨x + 1, by congr 1, ⟨HX.out.1, by first | exact HI.out.2.drew | exact HI.out.2⟩⟩, ?_⟩
                          show t - ((x : Int) + 1).toNat < t - ((x : Int)).toNat
                          have := HX.out.1; omega)
                    · have hxi : ¬ (x : Int) < (t : Int) := by omega
                      clear hx
                      go_wp2
                      refine ⟨⟨k + 1, by congr 1, ⟨HY.out.1, HI.out.2⟩⟩, ?_⟩
                      show p - ((k : Int) + 1).toNat < p - ((k : Int)).toNat
                      have := HY.out.1; omega
                · have hki : ¬ (k : Int) < (p : Int) := by omega
                  clear hk
                  go_wp2
                  refine ⟨⟨i + 1, by congr 1, ⟨HT.out.1, HI.out.2⟩⟩, ?_⟩
                  show t - ((i : Int) + 1).toNat < t - ((i : Int)).toNat
                  have := HT.out.1; omega
            · have hii : ¬ (i : Int) < (t : Int) := by omega
              clear hi
              obtain ⟨wo, hwo⟩ : ∃ wo, wo = wr := ⟨_, rfl⟩
              subst hwo
              go_wp2
              go_loopw [13] (fun v13 wr => ∃ j : Nat, v13 = .int .i64 (j : Int) ∧ Hid (j ≤ q ∧ Below w2.heap.size w2 wr)) (fun v _ => q - (intOf v).toNat)
              case atStart => exact ⟨0, rfl, ⟨Nat.zero_le _, HI.out.2⟩⟩
              case round =>
                clear HI
                obtain ⟨j, rfl, HI⟩ := hrel
                by_cases hj : j < q
                · have hjl : j < ll.length := by rw [HQ.out]; exact hj
                  have hji : (j : Int) < (q : Int) := by omega
                  obtain ⟨g1, c1, v1, e1, l1, r1, s1, t1⟩ := (HSn.out.2.1.on HI.out.2 (Nat.le_refl _)).at (show j < ll.length from hjl)
                  obtain ⟨rfl, -⟩ : ao = some ⟨g1, 0, none⟩ ∧ True := by cases e1; exact ⟨rfl, trivial⟩
                  have HC : Hid (Calls Try.prog 18 #[.slice o t cap, .slice o2 t cap2, v1] wr fun r W' => r = .returned (.bool true) ∧ Below wr.heap.size wr W') := HWh.out wr ll[j] v1 HI.out.2 (List.getElem_mem hjl) s1
                  obtain ⟨o5, c5, rfl, -, -⟩ := s1.slice
                  have HJ : Hid (j < q) := hj
                  generalize ll[j].length = y at HC r1
                  clear e1 s1 t1 hj hjl
                  go_wp2_with (go_at_call 18; fail)
                  refine HC.out.mono ?_
                  rintro e w9 ⟨rfl, hb9⟩
                  have HB9 : Hid (Below w2.heap.size w2 w9) := HI.out.2.trans (hb9.mono HI.out.2.size)
                  clear hb9 HC
                  go_wp2
                  refine ⟨⟨j + 1, by congr 1, ⟨HJ.out, HB9.out⟩⟩, ?_⟩
                  show q - ((j : Int) + 1).toNat < q - ((j : Int)).toNat
                  have := HJ.out; omega
                · have hji : ¬ (j : Int) < (q : Int) := by omega
                  clear hj
                  go_wp2
                  go_ret
                  exact ⟨rfl, HB2.out.trans (HI.out.2.mono HB2.out.size)⟩
    · go_wp2
      go_ret
      exact ⟨rfl, Hb1.out.trans (p5.mono Hb1.out.size)⟩
end Go.Proofs.Ytkkpkcigflikkaa
