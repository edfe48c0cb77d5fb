/-
  GroupsCalls: the law's walk.
-/
import Derived.Test.YtkkpkcigflikkaaRa
import Derived.Test.YtkkpkcigflikkaaRb
namespace Go.Proofs.Ytkkpkcigflikkaa
open Go.RowKit Go.Shelf Go.Maps G
set_option linter.unusedVariables false

theorem ord_len {ns : List (List UInt8)} {us : List (List (List UInt8))} {ll : List (List Nat)} {P : Nat → Nat} (h : SnOK ns us ll P) : (ordL ns ll).length = ns.length := by
  unfold ordL
  rw [List.length_map, List.length_flatten]
  exact h.sum
set_option maxHeartbeats 16000000 in
set_option maxRecDepth 100000 in
theorem lawCalls_c (v u z : Value) (ns : List (List UInt8)) (us : List (List (List UInt8))) (gl : List Int) (w : World) (hv : StrAt w v ns) (hu : UseAt w u us) (hz : NumAt w z gl) : Calls Try.prog 4 #[v, u, z] w fun r W' => r = .returned (.bool true) ∧ Below w.heap.size w W' := by
  have HV : Hid (StrAt w v ns ∧ UseAt w u us ∧ NumAt w z gl) := ⟨hv, hu, hz⟩
  obtain ⟨o, cap, ev, hc1, hc2⟩ := hv.slice
  obtain ⟨o2, cap2, eu, hd1, hd2⟩ := hu.slice
  obtain ⟨o3, cap3, ez, hf1, hf2, -, -⟩ := id hz
  obtain ⟨n, hn⟩ : ∃ n, ns.length = n := ⟨_, rfl⟩
  obtain ⟨m, hm⟩ : ∃ m, us.length = m := ⟨_, rfl⟩
  obtain ⟨p, hp⟩ : ∃ p, gl.length = p := ⟨_, rfl⟩
  have HL : Hid (ns.length = n ∧ us.length = m ∧ gl.length = p) := ⟨hn, hm, hp⟩
  rw [hn] at ev
  rw [hm] at eu
  rw [hp] at ez
  have hpi : (p : Int) ≤ 9223372036854775807 := by omega
  subst ev eu ez
  clear hv hu hz hc1 hc2 hd1 hd2 hf1 hf2 hn hm hp
  go_enter Try.func4, Try.ntmps4
  go_wp2_with (go_at_call 7; fail)
  refine (lives_c _).mono ?_
  rintro e w1 ⟨rfl, hb1⟩
  have Hb1 : Hid (Below w.heap.size w w1) := hb1
  clear hb1
  go_wp2_with (go_at_call 9; fail)
  refine (small_c _ _ ns us w1 (HV.out.1.below Hb1.out (Nat.le_refl _)) (HV.out.2.1.below Hb1.out (Nat.le_refl _))).mono ?_
  rintro e w2 ⟨b, rfl, hb, hw2⟩
  have hw3 := hw2.symm
  subst hw3
  clear hw2
  cases b with
  | false =>
    go_wp2
    go_ret
    exact ⟨rfl, Hb1.out⟩
  | true =>
    have HS : Hid (ns.length ≤ 150 ∧ us.length ≤ 150 ∧ total us ≤ 600) := hb rfl
    clear hb
    by_cases hp1 : p ≤ 150
    · have hp2 : ¬ (p : Int) > 150 := by omega
      have hp3 : ¬ (150 : Int) < (p : Int) := by omega
      have HG : Hid (gl.length ≤ 150) := by show _ ≤ _; rw [HL.out.2.2]; exact hp1
      clear hp1
      have HSf : Hid (∀ X : World, Below w.heap.size w X → Calls Try.prog 15 #[.slice o n cap, .slice o2 m cap2, .slice o3 p cap3] X fun r W' => r = .returned (.bool (selfB ns us gl)) ∧ Below X.heap.size X W') := fun X hX => self_c _ _ _ ns us gl (by have := HS.out; omega) (by have := HS.out; omega) (by have := HS.out; omega) (by have := HG.out; omega) X (HV.out.1.below hX (Nat.le_refl _)) (HV.out.2.1.below hX (Nat.le_refl _)) (HV.out.2.2.below hX (Nat.le_refl _))
      have HSr : Hid (∀ X : World, Below w.heap.size w X → Calls Try.prog 16 #[.slice o n cap, .slice o2 m cap2, .slice o3 p cap3] X fun r W' => r = .returned (.bool (selfB ns us gl)) ∧ Below X.heap.size X W') := fun X hX => rself_c _ _ _ ns us gl (by have := HS.out; omega) (by have := HS.out; omega) (by have := HS.out; omega) (by have := HG.out; omega) X (HV.out.1.below hX (Nat.le_refl _)) (HV.out.2.1.below hX (Nat.le_refl _)) (HV.out.2.2.below hX (Nat.le_refl _))
      go_wp2_with (go_at_call 6; fail)
      refine (of_c _ _ ns us (by have := HS.out; omega) (by have := HS.out; omega) (by have := HS.out; omega) w1 (HV.out.1.below Hb1.out (Nat.le_refl _)) (HV.out.2.1.below Hb1.out (Nat.le_refl _))).mono ?_
      rintro e w2 hP
      rcases hP with ⟨hlu, hnd, low, grp, S, av, gv, rfl, p1, p2, p3, p4, p5⟩ | ⟨h1, rfl, p5⟩
      · obtain ⟨ao, ac, rfl, -, -⟩ := owns_form p3
        have hsn := snOK_of hnd hlu p1 p2
        obtain ⟨ll, hll⟩ : ∃ ll, S.map grp = ll := ⟨_, rfl⟩
        rw [hll] at hsn
        have hSl : S.length = ll.length := by rw [← hll, List.length_map]
        have hia : IntsAt w2 (.slice ao S.length ac) ll := ints_of p3 p4 (fun g hg => ((p2.all g).1 hg).1) hll ⟨by have := hsn.len; have := HS.out; omega, fun l hl => ⟨by have := (hsn.whl l hl).2.1; have := HS.out; omega, fun x hx => by have := (hsn.whl l hl).2.2.1 x hx; have := HS.out; omega⟩⟩
        have Hb2 : Hid (Below w.heap.size w w2) := Hb1.out.trans (p5.mono Hb1.out.size)
        have HP : Hid (Parted ns.length (adjF ns us) low grp ∧ Ordered ns.length (adjF ns us) low S ∧ ns.Nodup ∧ ns.length = us.length ∧ S.map grp = ll ∧ (ordL ns ll).length ≤ 150) := ⟨p1, p2, hnd, hlu, hll, by rw [ord_len hsn]; exact HS.out.1⟩
        have HA : Hid (IntsAt w2 (.slice ao S.length ac) ll) := hia
        obtain ⟨q, hq⟩ : ∃ q, S.length = q := ⟨_, rfl⟩
        rw [hq] at HA ⊢
        clear p1 p2 p3 p4 p5 hnd hlu hll hsn hSl hia hq Hb1
        go_wp2_with (go_at_call 10; fail)
        refine (rOf_c _ _ ns us low grp S (by have := HS.out; omega) (by have := HS.out; omega) (by have := HS.out; omega) HP.out.2.2.2.1 HP.out.2.2.1 HP.out.1 HP.out.2.1 w2 (HV.out.1.below Hb2.out (Nat.le_refl _)) (HV.out.2.1.below Hb2.out (Nat.le_refl _))).mono ?_
        rintro e w3 ⟨bv, rfl, h3, h4⟩
        rw [HP.out.2.2.2.2.1] at h3
        obtain ⟨bo, bc, rfl, -⟩ := id h3
        have Hb3 : Hid (Below w.heap.size w w3 ∧ IntsAt w3 (.slice ao q ac) ll ∧ IntsAt w3 (.slice bo ll.length bc) ll) := ⟨Hb2.out.trans (h4.mono Hb2.out.size), HA.out.on h4 (Nat.le_refl _), h3⟩
        obtain ⟨q2, hq2⟩ : ∃ q2, ll.length = q2 := ⟨_, rfl⟩
        rw [hq2] at Hb3 ⊢
        clear h3 h4 hq2 Hb2 HA
        go_wp2_with (go_at_call 11; fail)
        refine (order_c _ _ ns us low grp S (by have := HS.out; omega) (by have := HS.out; omega) (by have := HS.out; omega) HP.out.2.2.2.1 HP.out.2.2.1 HP.out.1 HP.out.2.1 w3 (HV.out.1.below Hb3.out.1 (Nat.le_refl _)) (HV.out.2.1.below Hb3.out.1 (Nat.le_refl _))).mono ?_
        rintro e w4 ⟨cv, rfl, h3, h4⟩
        rw [HP.out.2.2.2.2.1] at h3
        obtain ⟨co, cc, rfl, -, -⟩ := h3.slice
        have Hb4 : Hid (Below w.heap.size w w4 ∧ IntsAt w4 (.slice ao q ac) ll ∧ IntsAt w4 (.slice bo q2 bc) ll ∧ StrAt w4 (.slice co (ordL ns ll).length cc) (ordL ns ll)) := ⟨Hb3.out.1.trans (h4.mono Hb3.out.1.size), Hb3.out.2.1.on h4 (Nat.le_refl _), Hb3.out.2.2.on h4 (Nat.le_refl _), h3⟩
        clear h3 h4 Hb3
        go_wp2_with (go_at_call 12; fail)
        refine (rorder_c _ _ ns us low grp S (by have := HS.out; omega) (by have := HS.out; omega) (by have := HS.out; omega) HP.out.2.2.2.1 HP.out.2.2.1 HP.out.1 HP.out.2.1 w4 (HV.out.1.below Hb4.out.1 (Nat.le_refl _)) (HV.out.2.1.below Hb4.out.1 (Nat.le_refl _))).mono ?_
        rintro e w5 ⟨dv, rfl, h3, h4⟩
        rw [HP.out.2.2.2.2.1] at h3
        obtain ⟨dO, dc, rfl, -, -⟩ := h3.slice
        have Hb5 : Hid (Below w.heap.size w w5 ∧ IntsAt w5 (.slice ao q ac) ll ∧ IntsAt w5 (.slice bo q2 bc) ll ∧ StrAt w5 (.slice co (ordL ns ll).length cc) (ordL ns ll) ∧ StrAt w5 (.slice dO (ordL ns ll).length dc) (ordL ns ll)) := ⟨Hb4.out.1.trans (h4.mono Hb4.out.1.size), Hb4.out.2.1.on h4 (Nat.le_refl _), Hb4.out.2.2.1.on h4 (Nat.le_refl _), Hb4.out.2.2.2.below h4 (Nat.le_refl _), h3⟩
        obtain ⟨s, hs⟩ : ∃ s, (ordL ns ll).length = s := ⟨_, rfl⟩
        rw [hs] at Hb5 ⊢
        clear h3 h4 Hb4 hs
        go_wp2_with (go_at_call 13; fail)
        refine (same_c _ _ ll ll w5 Hb5.out.2.1 Hb5.out.2.2.1).mono ?_
        rintro e w6 ⟨rfl, h4⟩
        rw [decide_eq_true rfl]
        have Hb6 : Hid (Below w.heap.size w w6 ∧ StrAt w6 (.slice co s cc) (ordL ns ll) ∧ StrAt w6 (.slice dO s dc) (ordL ns ll)) := ⟨Hb5.out.1.trans (h4.mono Hb5.out.1.size), Hb5.out.2.2.2.1.below h4 (Nat.le_refl _), Hb5.out.2.2.2.2.below h4 (Nat.le_refl _)⟩
        clear h4 Hb5
        go_wp2_with (go_at_call 14; fail)
        refine (sameTexts_c _ _ (ordL ns ll) (by have := HP.out.2.2.2.2.2; omega) w6 Hb6.out.2.1 Hb6.out.2.2).mono ?_
        rintro e w7 ⟨rfl, h4⟩
        have Hb7 : Hid (Below w.heap.size w w7) := Hb6.out.1.trans (h4.mono Hb6.out.1.size)
        clear h4 Hb6
        go_wp2_with (go_at_call 15; fail)
        refine (HSf.out w7 Hb7.out).mono ?_
        rintro e w8 ⟨rfl, h4⟩
        have Hb8 : Hid (Below w.heap.size w w8) := Hb7.out.trans (h4.mono Hb7.out.size)
        clear h4 Hb7
        go_wp2_with (go_at_call 16; fail)
        refine (HSr.out w8 Hb8.out).mono ?_
        rintro e w9 ⟨rfl, h4⟩
        have Hb9 : Hid (Below w.heap.size w w9) := Hb8.out.trans (h4.mono Hb8.out.size)
        clear h4 Hb8
        generalize selfB ns us gl = sb
        cases sb with
        | false =>
          go_wp2
          go_ret
          exact ⟨rfl, Hb9.out⟩
        | true =>
          go_wp2
          go_ret
          exact ⟨rfl, Hb9.out⟩
      · have Hb2 : Hid (Below w.heap.size w w2) := Hb1.out.trans (p5.mono Hb1.out.size)
        have HE : Hid (¬ (ns.length = us.length ∧ ns.Nodup)) := h1
        clear p5 h1 Hb1
        go_wp2_with (go_at_call 10; fail)
        refine (rOfErr_c _ _ ns us (by have := HS.out; omega) (by have := HS.out; omega) (by have := HS.out; omega) HE.out w2 (HV.out.1.below Hb2.out (Nat.le_refl _)) (HV.out.2.1.below Hb2.out (Nat.le_refl _))).mono ?_
        rintro e w3 ⟨rfl, h4⟩
        have Hb3 : Hid (Below w.heap.size w w3) := Hb2.out.trans (h4.mono Hb2.out.size)
        clear h4 Hb2
        go_wp2_with (go_at_call 11; fail)
        refine (orderErr_c _ _ ns us (by have := HS.out; omega) (by have := HS.out; omega) (by have := HS.out; omega) HE.out w3 (HV.out.1.below Hb3.out (Nat.le_refl _)) (HV.out.2.1.below Hb3.out (Nat.le_refl _))).mono ?_
        rintro e w4 ⟨rfl, h4⟩
        have Hb4 : Hid (Below w.heap.size w w4) := Hb3.out.trans (h4.mono Hb3.out.size)
        clear h4 Hb3
        go_wp2_with (go_at_call 12; fail)
        refine (rorderErr_c _ _ ns us (by have := HS.out; omega) (by have := HS.out; omega) (by have := HS.out; omega) HE.out w4 (HV.out.1.below Hb4.out (Nat.le_refl _)) (HV.out.2.1.below Hb4.out (Nat.le_refl _))).mono ?_
        rintro e w5 ⟨rfl, h4⟩
        have hin : IntsAt w5 (.slice none 0 0) [] := ⟨none, 0, rfl, by decide, .inl rfl, fun l hl => (by cases hl)⟩
        have Hb5 : Hid (Below w.heap.size w w5 ∧ IntsAt w5 (.slice none 0 0) [] ∧ IntsAt w5 (.slice none 0 0) [] ∧ StrAt w5 (.slice none 0 0) [] ∧ StrAt w5 (.slice none 0 0) []) := ⟨Hb4.out.trans (h4.mono Hb4.out.size), hin, hin, strAt_nil _, strAt_nil _⟩
        clear h4 Hb4 hin
        go_wp2_with (go_at_call 13; fail)
        refine (same_c _ _ [] [] w5 Hb5.out.2.1 Hb5.out.2.2.1).mono ?_
        rintro e w6 ⟨rfl, h4⟩
        rw [decide_eq_true rfl]
        have Hb6 : Hid (Below w.heap.size w w6 ∧ StrAt w6 (.slice none 0 0) [] ∧ StrAt w6 (.slice none 0 0) []) := ⟨Hb5.out.1.trans (h4.mono Hb5.out.1.size), Hb5.out.2.2.2.1.below h4 (Nat.le_refl _), Hb5.out.2.2.2.2.below h4 (Nat.le_refl _)⟩
        clear h4 Hb5
        go_wp2_with (go_at_call 14; fail)
        refine (sameTexts_c _ _ [] (by decide) w6 Hb6.out.2.1 Hb6.out.2.2).mono ?_
        rintro e w7 ⟨rfl, h4⟩
        have Hb7 : Hid (Below w.heap.size w w7) := Hb6.out.1.trans (h4.mono Hb6.out.1.size)
        clear h4 Hb6
        go_wp2_with (go_at_call 15; fail)
        refine (HSf.out w7 Hb7.out).mono ?_
        rintro e w8 ⟨rfl, h4⟩
        have Hb8 : Hid (Below w.heap.size w w8) := Hb7.out.trans (h4.mono Hb7.out.size)
        clear h4 Hb7
        go_wp2_with (go_at_call 16; fail)
        refine (HSr.out w8 Hb8.out).mono ?_
        rintro e w9 ⟨rfl, h4⟩
        have Hb9 : Hid (Below w.heap.size w w9) := Hb8.out.trans (h4.mono Hb8.out.size)
        clear h4 Hb8
        generalize selfB ns us gl = sb
        cases sb with
        | false =>
          go_wp2
          go_ret
          exact ⟨rfl, Hb9.out⟩
        | true =>
          go_wp2
          go_ret
          exact ⟨rfl, Hb9.out⟩
    · have hp2 : (p : Int) > 150 := by omega
      have hp3 : (150 : Int) < (p : Int) := by omega
      clear hp1
      go_wp2
      go_ret
      exact ⟨rfl, Hb1.out⟩
end Go.Proofs.Ytkkpkcigflikkaa
