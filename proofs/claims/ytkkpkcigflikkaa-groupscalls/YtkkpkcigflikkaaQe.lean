/-
  The document's Of, where something is wrong, by a contract.
-/
import Derived.Test.YtkkpkcigflikkaaQd
import Derived.Test.YtkkpkcigflikkaaOe
namespace Go.Proofs.Ytkkpkcigflikkaa
open Go.RowKit Go.Shelf Go.Maps G
set_option linter.unusedVariables false

theorem nodup_of_ix {l : List (List UInt8)} (h : ∀ j (hj : j < l.length), ixO l l[j] = some j) : l.Nodup := by
  rw [List.nodup_iff_pairwise_ne, List.pairwise_iff_getElem]
  intro i j hi hj hij e
  have h1 := h i hi
  have h2 := h j hj
  rw [← e] at h2
  rw [h2] at h1
  have := Option.some.inj h1
  omega
theorem ix_of_nodup {l : List (List UInt8)} (h : l.Nodup) {j : Nat} (hj : j < l.length) : ixO l l[j] = some j := by
  unfold ixO
  rw [if_pos (List.getElem_mem hj)]
  congr 1
  exact (List.getElem_inj (h₀ := List.idxOf_lt_length_iff.2 (List.getElem_mem hj)) (h₁ := hj) h).1 (List.getElem_idxOf _)
theorem ix_mem {l : List (List UInt8)} {s : List UInt8} (h : s ∈ l) : ∃ p, ixO l s = some p ∧ p < l.length := by
  unfold ixO
  rw [if_pos h]
  exact ⟨_, rfl, List.idxOf_lt_length_iff.2 h⟩
set_option maxHeartbeats 8000000 in
set_option maxRecDepth 100000 in
theorem rOfErr_c (v u : Value) (ns : List (List UInt8)) (us : List (List (List UInt8))) (hnl : ns.length ≤ 20000) (hul : us.length ≤ 20000) (ht : total us ≤ 200000) (hE : ¬ (ns.length = us.length ∧ ns.Nodup)) (w : World) (hv : StrAt w v ns) (hu : UseAt w u us) : Calls Try.prog 10 #[v, u] w fun r W' => r = .returned (.tuple #[.slice none 0 0, .int .i64 2]) ∧ Below w.heap.size w W' := by
  have HV : Hid (StrAt w v ns ∧ UseAt w u us ∧ ns.length ≤ 20000 ∧ us.length ≤ 20000 ∧ total us ≤ 200000) := ⟨hv, hu, hnl, hul, ht⟩
  obtain ⟨o, cap, ev, hc1, hc2⟩ := hv.slice
  obtain ⟨o2, cap2, eu, hd1, hd2⟩ := hu.slice
  obtain ⟨n, hn⟩ : ∃ n, ns.length = n := ⟨_, rfl⟩
  obtain ⟨m, hm⟩ : ∃ m, us.length = m := ⟨_, rfl⟩
  have HL : Hid (ns.length = n ∧ us.length = m) := ⟨hn, hm⟩
  rw [hn] at ev
  rw [hm] at eu
  subst ev eu
  have hni : (n : Int) ≤ 20000 := by omega
  have hmi : (m : Int) ≤ 20000 := by omega
  have HPl : Hid (∀ (X : World) (s : List UInt8), Below w.heap.size w X → Calls Try.prog 25 #[.slice o n cap, .string (bs s)] X fun r W' => r = .returned (.int .i64 (ixI ns s)) ∧ W' = X) := fun X s hX => rplace_c _ ns s (by have := HV.out.2.2.1; omega) X (HV.out.1.below hX (Nat.le_refl _))
  clear hv hu hc1 hc2 hd1 hd2 hn hm hnl hul ht
  have HE : Hid (¬ (ns.length = us.length ∧ ns.Nodup)) := hE
  clear hE
  go_enter Try.func10, Try.ntmps10
  go_wp2
  go_loopw [7, 8] (fun v7 v8 wr => ∃ t k : Nat, v7 = .int .i64 (t : Int) ∧ v8 = .int .i64 (k : Int) ∧ wr = w ∧ Hid (k ≤ m ∧ t = total (us.take k))) (fun _ v _ => m - (intOf v).toNat)
  case atStart => exact ⟨0, 0, rfl, rfl, rfl, ⟨Nat.zero_le _, rfl⟩⟩
  case round =>
    obtain ⟨t, k, rfl, rfl, hwr, HI⟩ := hrel
    have hwr := hwr.symm
    subst hwr
    have hti : (t : Int) ≤ 200000 := by have h1 := HI.out.2; have h2 := total_le us k; have h3 := HV.out.2.2.2.2; omega
    by_cases hk : k < m
    · have hkl : k < us.length := by rw [HL.out.2]; exact hk
      have hki : (k : Int) < (m : Int) := by omega
      obtain ⟨g, off, cp, vj, e1, hg, hcj, hst⟩ := HV.out.2.1.at hkl
      obtain ⟨oj, cj, rfl, hj1, hj2⟩ := hst.slice
      have hlj := mem_total us k hkl
      obtain ⟨p, hp⟩ : ∃ p, us[k].length = p := ⟨_, rfl⟩
      have HM : Hid (total (us.take (k + 1)) = total (us.take k) + p ∧ k < m) := ⟨by rw [← hp]; exact total_take us k hkl, hk⟩
      rw [hp] at hcj hlj
      obtain ⟨rfl, -⟩ : o2 = some ⟨g, off, none⟩ ∧ True := by cases e1; exact ⟨rfl, trivial⟩
      have hpi : (p : Int) ≤ 200000 := by have := HV.out.2.2.2.2; omega
      clear hst hp hk hlj e1 hj1 hj2
      go_wp2
      refine ⟨⟨t + p, k + 1, by congr 1, by congr 1, trivial, ⟨HM.out.2, by rw [HM.out.1, HI.out.2]⟩⟩, ?_⟩
      show m - ((k : Int) + 1).toNat < m - ((k : Int)).toNat
      have := HM.out.2; omega
    · have hki : ¬ (k : Int) < (m : Int) := by omega
      clear hk HI
      have hng : ¬ (n : Int) > 20000 := by omega
      have htg : ¬ (t : Int) > 200000 := by omega
      by_cases hmn : m = n
      · subst hmn
        have hmm : ((m : Int) != (m : Int)) = false := by simp
        go_wp2
        go_loopw [9] (fun v9 wr => ∃ i : Nat, v9 = .int .i64 (i : Int) ∧ wr = w ∧ Hid (i ≤ m ∧ ∀ j (hj : j < ns.length), j < i → ixO ns ns[j] = some j)) (fun v _ => m - (intOf v).toNat)
        case atStart => exact ⟨0, rfl, rfl, ⟨Nat.zero_le _, fun j hj h => by omega⟩⟩
        case round =>
          obtain ⟨i, rfl, hwr, HI⟩ := hrel
          have hwr := hwr.symm
          subst hwr
          by_cases hi : i < m
          · have hii : (i : Int) < (m : Int) := by omega
            have hil : i < ns.length := by rw [HL.out.1]; exact hi
            obtain ⟨g, off, cp, e1, hg, hcj, -⟩ := HV.out.1.at hil
            obtain ⟨rfl, -⟩ : o = some ⟨g, off, none⟩ ∧ True := by cases e1; exact ⟨rfl, trivial⟩
            obtain ⟨p, hp, hpl⟩ := ix_mem (List.getElem_mem hil)
            have hC := HPl.out w ns[i] (Below.refl _ _)
            rw [ixI_some hp] at hC
            have HP : Hid (ixO ns ns[i] = some p ∧ i < m) := ⟨hp, hi⟩
            have HC : Hid (Calls Try.prog 25 #[.slice (some ⟨g, off, none⟩) m cap, .string (bs ns[i])] w fun r W' => r = .returned (.int .i64 (p : Int)) ∧ W' = w) := hC
            have hpi : (p : Int) ≤ 20000 := by have := HV.out.2.2.1; omega
            obtain ⟨x, hx⟩ : ∃ x, bs ns[i] = x := ⟨_, rfl⟩
            rw [hx] at hcj HC
            clear hC hp hi e1 hx
            go_wp2_with (go_at_call 25; fail)
            refine HC.out.mono ?_
            rintro e w3 ⟨rfl, hw3⟩
            have hw4 := hw3.symm
            subst hw4
            clear hw3 HC
            by_cases hpe : p = i
            · subst hpe
              have he : ((p : Int) != (p : Int)) = false := by simp
              go_wp2
              refine ⟨⟨p + 1, by congr 1, trivial, ⟨HP.out.2, fun j hj h => ?_⟩⟩, ?_⟩
              · by_cases e : j = p
                · subst e; exact HP.out.1
                · exact HI.out.2 j hj (by omega)
              · show m - ((p : Int) + 1).toNat < m - ((p : Int)).toNat
                have := HP.out.2; omega
            · have he : ((p : Int) != (i : Int)) = true := by simp; omega
              have he2 : ¬ (p : Int) = (i : Int) := by omega
              clear hpe
              go_wp2
              go_ret2
              exact ⟨rfl, Below.refl _ _⟩
          · exfalso
            have h1 := HI.out
            have h2 := HL.out
            exact HE.out ⟨by omega, nodup_of_ix (fun j hj => h1.2 j hj (by omega))⟩
      · have hmm : ((m : Int) != (n : Int)) = true := by simp; omega
        have hmm2 : ¬ (m : Int) = (n : Int) := by omega
        clear hmn
        go_wp2
        go_ret2
        exact ⟨rfl, Below.refl _ _⟩
end Go.Proofs.Ytkkpkcigflikkaa
