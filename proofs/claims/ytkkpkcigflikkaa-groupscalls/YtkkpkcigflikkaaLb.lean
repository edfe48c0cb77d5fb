/-
  Package groups: manyUses, placesOf, leaning, by contracts.
-/
import Derived.Test.YtkkpkcigflikkaaLa
namespace Go.Proofs.Ytkkpkcigflikkaa
open Go.RowKit Go.Shelf Go.Maps G
set_option linter.unusedVariables false

set_option maxHeartbeats 4000000 in
set_option maxRecDepth 100000 in
theorem manyUses_c (v : Value) (us : List (List (List UInt8))) (hl : us.length ≤ 100000) (ht : total us ≤ 200000) (w : World) (h : UseAt w v us) : Calls Try.prog 19 #[v] w fun r W' => r = .returned (.bool false) ∧ W' = w := by
  obtain ⟨o, cap, hv, hc1, hc2⟩ := h.slice
  have HU : Hid (UseAt w v us) := h
  obtain ⟨n, hn⟩ : ∃ n, us.length = n := ⟨_, rfl⟩
  have HN : Hid (us.length = n ∧ total us ≤ 200000) := ⟨hn, ht⟩
  have hni : (n : Int) ≤ 100000 := by omega
  rw [hn] at hv
  subst hv
  clear h hc1 hc2 hl ht hn
  go_enter Try.func19, Try.ntmps19
  go_wp2
  go_loopw [3, 8] (fun v3 v8 wr => ∃ k t : Nat, v3 = .int .i64 (t : Int) ∧ v8 = .int .i64 (k : Int) ∧ wr = w ∧ Hid (k ≤ n ∧ t = total (us.take k))) (fun _ v _ => n - (intOf v).toNat)
  case atStart => exact ⟨0, 0, rfl, rfl, rfl, ⟨Nat.zero_le _, rfl⟩⟩
  case round =>
    obtain ⟨k, t, rfl, rfl, hwr, HI⟩ := hrel
    have hwr := hwr.symm
    subst hwr
    have hti : (t : Int) ≤ 200000 := by have := HI.out.2; have := total_le us k; have := HN.out.2; omega
    by_cases hk : k < n
    · have hkl : k < us.length := by rw [HN.out.1]; exact hk
      obtain ⟨g, off, cp, vj, e1, hg, hcj, hst⟩ := HU.out.at hkl
      obtain ⟨oj, cj, rfl, hj1, hj2⟩ := hst.slice
      have hlj := mem_total us k hkl
      have HT : Hid (total (us.take (k + 1)) = total (us.take k) + us[k].length) := total_take us k hkl
      obtain ⟨m, hm⟩ : ∃ m, us[k].length = m := ⟨_, rfl⟩
      have HM : Hid (us[k].length = m ∧ k < n) := ⟨hm, hk⟩
      rw [hm] at hcj hlj
      obtain ⟨rfl, -⟩ : o = some ⟨g, off, none⟩ ∧ True := by cases e1; exact ⟨rfl, trivial⟩
      have hki : (k : Int) < (n : Int) := by omega
      have hmi : (m : Int) ≤ 200000 := by have := HN.out.2; omega
      clear hst hm hk hlj e1 hj1 hj2
      go_wp2
      refine ⟨⟨k + 1, t + m, by congr 1, by congr 1, ?_, ?_⟩, ?_⟩
      · first | rfl | trivial
      · have h1 := HI.out; have h2 := HT.out; have h3 := HM.out
        exact ⟨by omega, by omega⟩
      · show n - ((k : Int) + 1).toNat < n - ((k : Int)).toNat
        have := HM.out.2; omega
    · have hki : ¬ (k : Int) < (n : Int) := by omega
      clear hk
      go_wp2
      go_ret
      exact ⟨by simp; omega, rfl⟩
set_option maxHeartbeats 4000000 in
set_option maxRecDepth 100000 in
theorem placesOf_c (v : Value) (ns : List (List UInt8)) (hl : ns.length ≤ 20000) (w : World) (h : StrAt w v ns) : Calls Try.prog 20 #[v] w fun r W' => r = .returned (.map (some w.heap.size)) ∧ PM W' w.heap.size ns ∧ Below w.heap.size w W' := by
  obtain ⟨o, cap, hv, hc1, hc2⟩ := h.slice
  have HU : Hid (StrAt w v ns) := h
  obtain ⟨n, hn⟩ : ∃ n, ns.length = n := ⟨_, rfl⟩
  have HN : Hid (ns.length = n ∧ n ≤ 20000) := ⟨hn, by omega⟩
  have hni : (n : Int) ≤ 20000 := by omega
  have hmm : ∀ W : World, (Instr.makeMap 39 (some (.int .i64 (n : Int)))).run Try.prog W = .ok (.map (some W.heap.size)) (W.alloc (.map #[] 0)) := fun W => mm_run n W (by omega)
  rw [hn] at hv
  subst hv
  clear h hc1 hc2 hl hn
  have H0 : Hid (PM (w.alloc (.map #[] 0)) w.heap.size [] ∧ Below w.heap.size w (w.alloc (.map #[] 0))) := ⟨pm_new w, below1 w _⟩
  go_enter Try.func20, Try.ntmps20
  go_wp2
  go_loopw [11] (fun v8 wr => ∃ k : Nat, v8 = .int .i64 (k : Int) ∧ Hid (k ≤ n ∧ PM wr w.heap.size (ns.take k) ∧ Below w.heap.size w wr)) (fun v _ => n - (intOf v).toNat)
  case atStart => exact ⟨0, rfl, ⟨Nat.zero_le _, H0.out.1, H0.out.2⟩⟩
  case round =>
    obtain ⟨k, rfl, HI⟩ := hrel
    by_cases hk : k < n
    · have hkl : k < ns.length := by rw [HN.out.1]; exact hk
      obtain ⟨g, off, cp, e1, hg, hcj, hsz⟩ := HU.out.at hkl
      have hcj2 := (HI.out.2.2.cell (p := ⟨g, off + k, none⟩) hg).trans hcj
      obtain ⟨W2, hr2, hp2, hg2⟩ := HI.out.2.1.upd (by rw [List.length_take]; have := HN.out; omega) ns[k] hsz
      rw [List.length_take, Nat.min_eq_left (by omega)] at hr2
      have H2 : Hid (PM W2 w.heap.size (ns.take (k + 1)) ∧ Below w.heap.size w W2 ∧ k < n) := ⟨by rw [List.take_succ_eq_append_getElem hkl]; exact hp2, HI.out.2.2.grown hg2 HI.out.2.2.size (fun j hj => by cases hj; exact Nat.le_refl _), hk⟩
      obtain ⟨rfl, -⟩ : o = some ⟨g, off, none⟩ ∧ True := by cases e1; exact ⟨rfl, trivial⟩
      have hki : (k : Int) < (n : Int) := by omega
      have hgw : g < wr.heap.size := Nat.lt_of_lt_of_le hg HI.out.2.2.size
      generalize bs ns[k] = nk at hcj2 hr2
      clear hcj hsz hp2 hg2 hk e1
      go_wp2
      refine ⟨⟨k + 1, by congr 1, ⟨H2.out.2.2, H2.out.1, H2.out.2.1⟩⟩, ?_⟩
      show n - ((k : Int) + 1).toNat < n - ((k : Int)).toNat
      have := H2.out.2.2; omega
    · have hki : ¬ (k : Int) < (n : Int) := by omega
      have HK : Hid (ns.take k = ns) := by show _ = _; exact List.take_of_length_le (by have := HN.out.1; omega)
      clear hk
      go_wp2
      go_ret
      have h1 := HI.out.2
      rw [HK.out] at h1
      exact ⟨rfl, h1.1, h1.2⟩
end Go.Proofs.Ytkkpkcigflikkaa
