/-
  Package groups: the heap's own methods, by contracts.
-/
import Derived.Test.YtkkpkcigflikkaaKb
namespace Go.Proofs.Ytkkpkcigflikkaa
open Go.RowKit Go.Shelf Go.Maps G
set_option linter.unusedVariables false

set_option maxHeartbeats 4000000 in
set_option maxRecDepth 100000 in
theorem hLen_c (o : Option Addr) (n c : Nat) (hn : n ≤ 9223372036854775807) (w : World) : Calls Try.prog 33 #[.slice o n c] w fun r W' => r = .returned (.int .i64 (n : Int)) ∧ W' = w := by
  have hni : (n : Int) ≤ 9223372036854775807 := by omega
  go_enter Try.func33, Try.ntmps33
  go_wp2
  go_ret
  exact ⟨rfl, rfl⟩
set_option maxHeartbeats 4000000 in
set_option maxRecDepth 100000 in
theorem hLess_c (T : Nat) (v : Value) (l : List Nat) (i j : Nat) (hi : i < l.length) (hj : j < l.length) (w : World) (h : TurnAt w T v l) : Calls Try.prog 88 #[v, .int .i64 (i : Int), .int .i64 (j : Int)] w fun r W' => r = .returned (.bool (decide (l.getD i 0 < l.getD j 0))) ∧ TurnAt W' T v l ∧ Below w.heap.size w W' := by
  have hdep : Try.prog.follows Departure.mixedOrders = true := by kernel_rfl
  obtain ⟨g, cap, rfl, h1, h2, h3, h4, h5, h6⟩ := h.cell hi
  have ci := h5 i hi
  have cj := h5 j hj
  have HT : Hid (TurnAt w T (.slice (some ⟨g, 0, none⟩) l.length cap) l) := h
  have hii : (i : Int) < (l.length : Int) := by omega
  have hji : (j : Int) < (l.length : Int) := by omega
  have hcc : (l.length : Int) ≤ 9223372036854775807 := by omega
  generalize l.getD i 0 = x at ci ⊢
  generalize l.getD j 0 = y at cj ⊢
  clear h h3 h4 h5 h6 hi hj
  go_enter Try.func88, Try.ntmps88
  go_wp2
  go_region
  all_goals (
    go_wp2
    go_ret
    exact ⟨by simp, HT.out.drew, (Below.refl _ w).drew⟩)
set_option maxHeartbeats 4000000 in
set_option maxRecDepth 100000 in
theorem hSwap_c (T : Nat) (v : Value) (l : List Nat) (i j : Nat) (hi : i < l.length) (hj : j < l.length) (w : World) (h : TurnAt w T v l) : Calls Try.prog 90 #[v, .int .i64 (i : Int), .int .i64 (j : Int)] w fun r W' => r = .returned (.tuple #[]) ∧ TurnAt W' T v (sw l i j) ∧ Below (T + 1) w W' ∧ Fr T v w W' v := by
  have hdep : Try.prog.follows Departure.mixedOrders = true := by kernel_rfl
  obtain ⟨g, cap, rfl, h1, h2, h3, h4, h5, h6⟩ := h.cell hi
  have ci := h5 i hi
  have cj := h5 j hj
  have fi := h6 i
  have fj := h6 j
  have hii : (i : Int) < (l.length : Int) := by omega
  have hji : (j : Int) < (l.length : Int) := by omega
  have hcc : (l.length : Int) ≤ 9223372036854775807 := by omega
  have HS : Hid (TurnAt ((w.setCell ⟨g, i, none⟩ (nv (l.getD j 0))).setCell ⟨g, j, none⟩ (nv (l.getD i 0))) T (.slice (some ⟨g, 0, none⟩) l.length cap) (sw l i j) ∧ T + 1 ≤ g) := ⟨h.swap hi hj, h1⟩
  generalize l.getD i 0 = x at ci HS
  generalize l.getD j 0 = y at cj HS
  clear h h3 h4 h5 h6 hi hj
  by_cases hij : i = j
  · subst hij
    obtain rfl : x = y := by
      have h9 := ci.symm.trans cj
      simp only [Option.some.injEq, Value.int.injEq, true_and] at h9
      omega
    go_enter Try.func90, Try.ntmps90
    go_wp2
    go_region
    all_goals (
      go_end0
      refine ⟨rfl, ?_, ?_, (((Fr.refl T _ w).set (i := i) (.inr rfl) _).set (i := i) (.inr rfl) _).drew⟩
      · have h9 := HS.out.1.drew
        exact h9
      · exact (((Below.refl (T + 1) w).setCell (p := ⟨g, i, none⟩) HS.out.2 _).setCell (p := ⟨g, i, none⟩) HS.out.2 _).drew)
  · go_enter Try.func90, Try.ntmps90
    go_wp2
    go_region
    all_goals (
      go_end0
      exact ⟨rfl, HS.out.1.drew, (((Below.refl (T + 1) w).setCell (p := ⟨g, i, none⟩) HS.out.2 _).setCell (p := ⟨g, j, none⟩) HS.out.2 _).drew, (((Fr.refl T _ w).set (i := i) (.inr rfl) _).set (i := j) (.inr rfl) _).drew⟩)
set_option maxHeartbeats 4000000 in
set_option maxRecDepth 100000 in
theorem hPop_c (T : Nat) (v : Value) (l : List Nat) (x : Nat) (hl : l.length ≤ 100000) (w : World) (h : TurnAt w T v (l ++ [x])) : Calls Try.prog 91 #[.pointer (some ⟨T, 0, none⟩)] w fun r W' => r = .returned (.iface 3 (.int .i64 (x : Int))) ∧ (∃ v', TurnAt W' T v' l ∧ Fr T v w W' v') ∧ Below T w W' := by
  have hlen : (l ++ [x]).length = l.length + 1 := by simp
  obtain ⟨g, cap, rfl, h1, h2, h3, h4, h5, h6⟩ := h.cell (i := l.length) (by omega)
  obtain ⟨m, hm⟩ : ∃ m, l.length = m := ⟨_, rfl⟩
  have cx : w.cell? ⟨g, m, none⟩ = some (.int .i64 (x : Int)) := by
    have := h5 m (by omega)
    rw [List.getD_eq_getElem?_getD, List.getElem?_append_right (by omega), show m - l.length = 0 by omega] at this
    exact this
  have bT := h.b.cell 0 _ rfl
  have fT := h.b.frozen 0
  have lT := h.b.lt
  have HF : Hid (∃ v', TurnAt (w.setCell ⟨T, 0, none⟩ (.slice (some ⟨g, 0, none⟩) m cap)) T v' l ∧ Fr T (.slice (some ⟨g, 0, none⟩) (l ++ [x]).length cap) w (w.setCell ⟨T, 0, none⟩ (.slice (some ⟨g, 0, none⟩) m cap)) v') := by
    have hr := h.r
    rw [List.map_append] at hr
    exact ⟨_, ⟨h.b.set 0 _, owns_same (by rw [← hm]; exact owns_cut hr (by simp) (by simp)) (fun k hk => heap_set_other _ _ _ _ _ (by (have e : g = k := by simpa [Value.ownBlock] using hk); omega))⟩, ⟨by rw [size_set]; exact Nat.le_refl _, fun k h1 h2 h3 => heap_set_other _ _ _ _ _ h2, fun k hk => .inl hk⟩⟩
  rw [hlen, hm] at bT h3
  have hmi : (m : Int) ≤ 100000 := by omega
  have hci : (m : Int) + 1 ≤ (cap : Int) := by omega
  have hcm : (cap : Int) ≤ 9223372036854775807 := by omega
  have hTg : T ≠ g := by omega
  clear h h3 h4 h5 h6 hlen hm hl h1
  go_enter Try.func91, Try.ntmps91
  go_wp2
  go_ret
  exact ⟨rfl, HF.out, (Below.refl T w).setCell (p := ⟨T, 0, none⟩) (Nat.le_refl _) _⟩
end Go.Proofs.Ytkkpkcigflikkaa
