/-
  Package groups: Of, by a contract.
-/
import Derived.Test.YtkkpkcigflikkaaMb
namespace Go.Proofs.Ytkkpkcigflikkaa
open Go.RowKit Go.Shelf Go.Maps G
set_option linter.unusedVariables false

theorem ixO_lt {ns : List (List UInt8)} {x : List UInt8} {p : Nat} (h : ixO ns x = some p) : p < ns.length := by
  unfold ixO at h
  split at h
  · rename_i hx; cases h; exact List.idxOf_lt_length_iff.2 hx
  · cases h
theorem adjF_lt (ns : List (List UInt8)) (us : List (List (List UInt8))) (x : Nat) : ∀ y ∈ adjF ns us x, y < ns.length := fun y hy => by
  obtain ⟨z, _, h⟩ := List.mem_filterMap.1 hy
  exact ixO_lt h
theorem adjF_len (ns : List (List UInt8)) (us : List (List (List UInt8))) (x : Nat) : (adjF ns us x).length ≤ total us := by
  unfold adjF
  refine Nat.le_trans (List.length_filterMap_le _ _) ?_
  by_cases h : x < us.length
  · rw [List.getD_eq_getElem?_getD, List.getElem?_eq_getElem h]; exact mem_total us x h
  · rw [List.getD_eq_getElem?_getD, List.getElem?_eq_none (by omega)]; simp
/-- What Of answers where nothing is wrong. -/
def OfOK (w : World) (ns : List (List UInt8)) (us : List (List (List UInt8))) (r : Ending) (W' : World) : Prop := ∃ (low : Nat → Nat) (grp : Nat → List Nat) (S : List Nat) (av : Value) (gv : Nat → Value), r = .returned (.tuple #[av, .int .i64 0]) ∧ Parted ns.length (adjF ns us) low grp ∧ Ordered ns.length (adjF ns us) low S ∧ W'.ownsRow w.heap.size 30 1 av S.length (S.map gv) ∧ (∀ i, i < ns.length → RowAt W' W'.heap.size (gv i) (grp i)) ∧ Below w.heap.size w W'
/-- What Of answers. -/
def OfPost (w : World) (ns : List (List UInt8)) (us : List (List (List UInt8))) (r : Ending) (W' : World) : Prop := (ns.length = us.length ∧ ns.Nodup ∧ OfOK w ns us r W') ∨ (¬ (ns.length = us.length ∧ ns.Nodup) ∧ r = .returned (.tuple #[.slice none 0 0, .int .i64 2]) ∧ Below w.heap.size w W')
set_option maxHeartbeats 8000000 in
set_option maxRecDepth 100000 in
theorem of_c (v u : Value) (ns : List (List UInt8)) (us : List (List (List UInt8))) (hnl : ns.length ≤ 20000) (hul : us.length ≤ 20000) (ht : total us ≤ 200000) (w : World) (hv : StrAt w v ns) (hu : UseAt w u us) : Calls Try.prog 6 #[v, u] w fun r W' => OfPost w ns us r W' := by
  obtain ⟨o, cap, ev, hc1, hc2⟩ := hv.slice
  obtain ⟨o2, cap2, eu, hd1, hd2⟩ := hu.slice
  have HN : Hid (ns.length ≤ 20000 ∧ us.length ≤ 20000 ∧ total us ≤ 200000) := ⟨hnl, hul, ht⟩
  have HM : Hid (Calls Try.prog 19 #[u] w fun r W' => r = .returned (.bool false) ∧ W' = w) := manyUses_c u us (by omega) ht w hu
  have HP : Hid (Calls Try.prog 20 #[v] w fun r W' => r = .returned (.map (some w.heap.size)) ∧ PM W' w.heap.size ns ∧ Below w.heap.size w W') := placesOf_c v ns hnl w hv
  have HU : Hid (UseAt w u us) := hu
  obtain ⟨n, hn⟩ : ∃ n, ns.length = n := ⟨_, rfl⟩
  obtain ⟨m, hm⟩ : ∃ m, us.length = m := ⟨_, rfl⟩
  have HL : Hid (ns.length = n ∧ us.length = m) := ⟨hn, hm⟩
  rw [hn] at ev
  rw [hm] at eu
  subst ev eu
  have hni : (n : Int) ≤ 20000 := by omega
  have hmi : (m : Int) ≤ 20000 := by omega
  clear hc1 hc2 hd1 hd2 hv hu hnl hul ht hn hm
  go_enter Try.func6, Try.ntmps6
  go_wp2_with (go_at_call 19; fail)
  refine HM.out.mono ?_
  rintro e w0 ⟨rfl, hw0⟩
  have hw1 := hw0.symm
  subst hw1
  clear hw0
  go_wp2_with (go_at_call 20; fail)
  refine HP.out.mono ?_
  rintro e w1 ⟨rfl, hpm, hb1⟩
  have H1 : Hid (PM w1 w.heap.size ns ∧ Below w.heap.size w w1) := ⟨hpm, hb1⟩
  obtain ⟨k, hlen, hk1, hk2⟩ := hpm.len 3
  have HK : Hid (k ≤ ns.length ∧ (k = ns.length ↔ ns.Nodup)) := ⟨hk1, hk2⟩
  have hki : (k : Int) ≤ 20000 := by have := HN.out; omega
  clear hpm hb1 hk1 hk2 HM HP
  by_cases hnm : n = m
  · subst hnm
    by_cases hnd : n = k
    · subst hnd
      have HND : Hid (ns.Nodup) := HK.out.2.1 HL.out.1.symm
      have hLn := leaning_c (.slice o2 n cap2) w.heap.size ns us HND.out HN.out.1 HN.out.2.1 HN.out.2.2 w1 (HU.out.below H1.out.2 (Nat.le_refl _)) H1.out.1
      rw [HL.out.2] at hLn
      have HLn : Hid (Calls Try.prog 21 #[.map (some w.heap.size), .slice o2 n cap2] w1 fun r W' => ∃ B, r = .returned (.slice (some ⟨B, 0, none⟩) n n) ∧ w1.heap.size ≤ B ∧ RowsAt W' W'.heap.size B n (adjF ns us) ∧ Below w1.heap.size w1 W') := hLn
      clear hLn
      go_wp2_with (go_at_call 21; fail)
      refine HLn.out.mono ?_
      rintro e w2 ⟨B, rfl, hB, hrw, hb2⟩
      have H2 : Hid (RowsAt w2 w2.heap.size B n (adjF ns us) ∧ Below w.heap.size w w2) := ⟨hrw, H1.out.2.trans (hb2.mono H1.out.2.size)⟩
      have HA : Hid (n ≤ 20000 ∧ (∀ x, x < n → (adjF ns us x).length ≤ 200000) ∧ (∀ x, x < n → ∀ y ∈ adjF ns us x, y < n)) := ⟨by have := HL.out.1; have := HN.out.1; omega, fun x _ => Nat.le_trans (adjF_len ns us x) HN.out.2.2, fun x _ y hy => by have := adjF_lt ns us x y hy; have := HL.out.1; omega⟩
      have HPt : Hid (Calls Try.prog 23 #[.slice (some ⟨B, 0, none⟩) n n] w2 fun r W' => PtPost w2 n (adjF ns us) r W') := part_c n w2.heap.size B 200000 (adjF ns us) HA.out.1 HA.out.2.1 (by decide) HA.out.2.2 w2 hrw (Nat.le_refl _)
      clear hrw hb2 hB HLn
      go_wp2_with (go_at_call 23; fail)
      refine HPt.out.mono ?_
      rintro e w3 ⟨L, G, low, grp, gv, rfl, p1, p2, p3, p4, p5, p6, p7⟩
      have HIo : Hid (Calls Try.prog 22 #[.slice (some ⟨B, 0, none⟩) n n, .agg #[.slice (some ⟨L, 0, none⟩) n n, .slice (some ⟨G, 0, none⟩) n n]] w3 fun r W' => IoPost w3 n (adjF ns us) low grp r W') := inOrder_c n w2.heap.size B L G 200000 (adjF ns us) low grp gv p1 HA.out.1 HA.out.2.1 (by decide) HA.out.2.2 w3 (H2.out.1.below p7 (Nat.le_refl _)) p7.size p4 p5 (fun i hi => ⟨(p6 i hi).1, (p6 i hi).2.2⟩)
      have H3 : Hid (Parted n (adjF ns us) low grp ∧ Below w.heap.size w w3) := ⟨p1, H2.out.2.trans (p7.mono H2.out.2.size)⟩
      clear p1 p2 p3 p4 p5 p6 p7 HPt
      go_wp2_with (go_at_call 22; fail)
      refine HIo.out.mono ?_
      rintro e w4 ⟨S, av, gv2, rfl, q1, q2, q3, q4⟩
      have H4 : Hid (Ordered n (adjF ns us) low S ∧ w4.ownsRow w.heap.size 30 1 av S.length (S.map gv2) ∧ (∀ i, i < n → RowAt w4 w4.heap.size (gv2 i) (grp i)) ∧ Below w.heap.size w w4) := ⟨q1, owns_mono q2 H3.out.2.size, q3, H3.out.2.trans (q4.mono H3.out.2.size)⟩
      obtain ⟨ao, ac, rfl, -, -⟩ := owns_form q2
      clear q1 q2 q3 q4 HIo
      go_wp2
      go_ret2
      refine .inl ⟨by rw [HL.out.1, HL.out.2], HND.out, low, grp, S, _, gv2, rfl, ?_, ?_, H4.out.2.1, ?_, H4.out.2.2.2⟩
      · rw [HL.out.1]; exact H3.out.1
      · rw [HL.out.1]; exact H4.out.1
      · rw [HL.out.1]; exact H4.out.2.2.1
    · have hndi : ((n : Int) != (k : Int)) = true := by simp; omega
      have hndj : ¬ (n : Int) = (k : Int) := by omega
      have HX : Hid (¬ (ns.length = us.length ∧ ns.Nodup)) := fun h9 => by have := HL.out; have := HK.out.2.2 h9.2; exact hnd (by omega)
      clear hnd
      go_wp2
      go_ret2
      exact .inr ⟨HX.out, rfl, H1.out.2⟩
  · have hnmi : ((n : Int) != (m : Int)) = true := by simp; omega
    have hnmj : ¬ (n : Int) = (m : Int) := by omega
    have HX : Hid (¬ (ns.length = us.length ∧ ns.Nodup)) := fun h9 => by have := HL.out; exact hnm (by omega)
    clear hnm
    go_wp2
    go_ret2
    exact .inr ⟨HX.out, rfl, H1.out.2⟩
end Go.Proofs.Ytkkpkcigflikkaa
