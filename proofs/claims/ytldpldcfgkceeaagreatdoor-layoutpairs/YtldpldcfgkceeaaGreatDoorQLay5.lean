/-
  Layout: what the state without a mark tells, by contracts.
-/
import Derived.Test.YtldpldcfgkceeaaGreatDoorQLay4
namespace Go.Proofs.YtldpldcfgkceeaaGreatDoor
open Go.RowKit Go.Shelf Go.Maps
set_option linter.unusedVariables false

theorem Blk.new1 (w : World) (o : Obj) (vs : Array Value) (T : TypeId) : Blk ((w.alloc o).alloc (.cells vs T)) (w.heap.size + 1) vs T := by
  have := Blk.new (w.alloc o) vs T
  have hs : (w.alloc o).heap.size = w.heap.size + 1 := by simp
  rw [hs] at this
  exact this
theorem owns_len {W : World} {b e z n : Nat} {v : Value} {xs : List Value} (h : W.ownsRow b e z v n xs) : ∃ (o : Option Addr) (c : Nat), v = .slice o n c := by
  rcases h with ⟨_, ⟨rfl, rfl⟩ | ⟨g, cap, cur, h, _⟩⟩
  · exact ⟨none, 0, rfl⟩
  · exact ⟨_, cap, h⟩

set_option maxHeartbeats 16000000 in
set_option maxRecDepth 100000 in
theorem last_c (P e : Nat) (s : L.S) (n : Nat) (ov : Option Addr) (cv : Nat) (bv : Value) (hbl : s.blocks.length ≤ 100000) (w : World) (h : Strm w P e s n ov cv bv) (ht : s.toks = []) :
    Calls Tryz.prog 169 #[.agg #[], .pointer (some ⟨P, 0, none⟩)] w fun r W' => r = .returned (turnV (L.plainNext e s.toks s.blocks)) ∧ Below w.heap.size w W' := by
  have hdep : Tryz.prog.follows Departure.mixedOrders = true := by kernel_rfl
  have hBB : Hid (∀ o o' : Obj, Below w.heap.size w ((w.alloc o).alloc o')) := fun o o' => ((Below.refl _ w).alloc (Nat.le_refl _) _).alloc (by simp) _
  obtain ⟨p, hp'⟩ : ∃ p, L.place e s.toks = p := ⟨_, rfl⟩
  have hp : Hid (L.place e s.toks = p) := hp'
  clear hp'
  have hB0 : Hid (∀ o : Obj, Below w.heap.size w (w.alloc o)) := fun o => (Below.refl _ w).alloc (Nat.le_refl _) _
  have hC : Hid (∀ W : World, Below w.heap.size w W → Calls Tryz.prog 53 #[.pointer (some ⟨P, 0, none⟩)] W fun r W' => r = .returned (.int .i64 (L.col s.blocks : Nat)) ∧ Below W.heap.size W W') := fun W hW => column_c P e s n ov cv bv hbl W (h.below hW)
  have hI125 : Hid (∀ W : World, Below w.heap.size w W → Calls Tryz.prog 73 #[.pointer (some ⟨P, 0, none⟩), .string (bs [125])] W fun r W' => r = .returned (.agg #[.int .i64 8, .string (bs [125]), .int .i64 0, .int .i64 (p : Int), .int .i64 0, .int .i64 0, .bool false, .bool true]) ∧ Below W.heap.size W W') := by
    intro W hW
    have := implied_c P e s n ov cv bv [125] W (h.below hW)
    rw [show lxV (L.impl e s.toks [125]) = .agg #[.int .i64 8, .string (bs [125]), .int .i64 0, .int .i64 (p : Int), .int .i64 0, .int .i64 0, .bool false, .bool true] by rw [← hp.out]; exact rfl] at this
    exact this
  obtain ⟨q0, q1, q2, q3, q4, g0, g1, g2, g3, g4⟩ := h.blk.all5
  have hPl : P < w.heap.size := h.blk.lt
  obtain ⟨o, c, rfl⟩ := owns_len h.bks
  clear h
  rcases Nat.eq_zero_or_pos s.blocks.length with h0 | h0
  · obtain hbz : s.blocks = [] := List.length_eq_zero_iff.1 h0
    have HT : Hid (turnV (L.plainNext e s.toks s.blocks) = .agg #[.int .i64 0, .string ⟨#[]⟩, .int .i64 0, .int .i64 0, .int .i64 0, .int .i64 0, .bool false, .bool false, .int .i64 11, .nilIface, .bool false, .int .i64 0, .bool false, .int .i64 0]) := by
      show _ = _
      rw [ht, hbz]
      rfl
    rw [h0] at q3
    clear hbl h0 hbz hC hI125 hp
    go_enter Tryz.func169, Tryz.ntmps169
    go_wp2
    exact bodyPost_ret (v := .agg #[.int .i64 0, .string ⟨#[]⟩, .int .i64 0, .int .i64 0, .int .i64 0, .int .i64 0, .bool false, .bool false, .int .i64 11, .nilIface, .bool false, .int .i64 0, .bool false, .int .i64 0]) (by simp [results, Tryz.results169, go_sem]) rfl ⟨by rw [HT.out], hBB.out _ _⟩
  · have hbz : s.blocks ≠ [] := fun hb => by rw [hb] at h0; simp at h0
    have h0i : ((s.blocks.length : Int) == 0) = false := beq_eq_false_iff_ne.2 (by omega)
    obtain ⟨bl, hbL⟩ : ∃ bl, s.blocks.length = bl := ⟨_, rfl⟩
    rw [hbL] at q3 h0i
    by_cases hc0 : L.col s.blocks = 0
    · have HT : Hid (turnV (L.plainNext e s.toks s.blocks) = .agg #[.int .i64 0, .string ⟨#[]⟩, .int .i64 0, .int .i64 0, .int .i64 0, .int .i64 0, .bool false, .bool false, .int .i64 5, .nilIface, .bool false, .int .i64 0, .bool false, .int .i64 0]) := by
        show _ = _
        rw [ht]
        unfold L.plainNext
        simp only
        rw [if_neg hbz, if_pos hc0]
        rfl
      rw [hc0] at hC
      clear hbl h0 hbz hI125 hp hc0 hbL
      go_enter Tryz.func169, Tryz.ntmps169
      go_wp2_with (go_at_call 53; fail)
      refine (hC.out _ (hBB.out _ _)).mono ?_
      rintro r w1 ⟨rfl, hb1⟩
      have hF1 : Hid (Below w.heap.size w w1) := (hBB.out _ _).trans (hb1.mono (by simp; omega))
      have hR1 : Hid (Blk w1 (w.heap.size + 1) #[.int .i64 0, .string ⟨#[]⟩, .int .i64 0, .int .i64 0, .int .i64 0, .int .i64 0, .bool false, .bool false, .int .i64 0, .nilIface, .bool false, .int .i64 0, .bool false, .int .i64 0] 85) := (Blk.new1 w _ _ _).below hb1
      clear hb1
      obtain ⟨c0, c1, c2, c3, c4, c5, c6, c7, c8, c9, c10, c11, c12, c13, f0, f1, f2, f3, f4, f5, f6, f7, f8, f9, f10, f11, f12, f13⟩ := hR1.out.all14
      go_wp2
      have z := (hR1.out.setAll14 (.int .i64 0) (.string ⟨#[]⟩) (.int .i64 0) (.int .i64 0) (.int .i64 0) (.int .i64 0) (.bool false) (.bool false) (.int .i64 5) (.nilIface) (.bool false) (.int .i64 0) (.bool false) (.int .i64 0)).all14
      exact bodyPost_ret (v := .agg #[.int .i64 0, .string ⟨#[]⟩, .int .i64 0, .int .i64 0, .int .i64 0, .int .i64 0, .bool false, .bool false, .int .i64 5, .nilIface, .bool false, .int .i64 0, .bool false, .int .i64 0]) (by simp [results, Tryz.results169, go_sem, z]) rfl ⟨by rw [HT.out], (below_set14 hF1.out (Nat.le_succ _) (.int .i64 0) (.string ⟨#[]⟩) (.int .i64 0) (.int .i64 0) (.int .i64 0) (.int .i64 0) (.bool false) (.bool false) (.int .i64 5) (.nilIface) (.bool false) (.int .i64 0) (.bool false) (.int .i64 0))⟩
    · have HT : Hid (turnV (L.plainNext e s.toks s.blocks) = .agg #[.int .i64 8, .string (bs [125]), .int .i64 0, .int .i64 (p : Int), .int .i64 0, .int .i64 0, .bool false, .bool true, .int .i64 0, .iface 107 (.agg #[]), .bool false, .int .i64 0, .bool true, .int .i64 0]) := by
        show _ = _
        rw [ht]
        unfold L.plainNext
        simp only
        rw [if_neg hbz, if_neg hc0, ← hp.out, ht]
        rfl
      have hci : (((L.col s.blocks : Nat) : Int) == 0) = false := beq_eq_false_iff_ne.2 (by omega)
      generalize L.col s.blocks = cc at *
      clear hbl h0 hbz hp hc0 hbL
      go_enter Tryz.func169, Tryz.ntmps169
      go_wp2_with (go_at_call 53; fail)
      refine (hC.out _ (hBB.out _ _)).mono ?_
      rintro r w1 ⟨rfl, hb1⟩
      have hF1 : Hid (Below w.heap.size w w1) := (hBB.out _ _).trans (hb1.mono (by simp; omega))
      have hR1 : Hid (Blk w1 (w.heap.size + 1) #[.int .i64 0, .string ⟨#[]⟩, .int .i64 0, .int .i64 0, .int .i64 0, .int .i64 0, .bool false, .bool false, .int .i64 0, .nilIface, .bool false, .int .i64 0, .bool false, .int .i64 0] 85) := (Blk.new1 w _ _ _).below hb1
      have hE1 : Hid (Blk w1 w.heap.size #[] 107) := ((Blk.new w _ _).alloc _).below hb1
      clear hb1
      go_wp2
      go_region_with (go_at_call 73; refine (hI125.out _ (by first | exact hF1.out | exact hF1.out.drew)).mono ?_; rintro r w2 ⟨rfl, hb2⟩; have hR2 : Hid (Blk w2 (w.heap.size + 1) #[.int .i64 0, .string ⟨#[]⟩, .int .i64 0, .int .i64 0, .int .i64 0, .int .i64 0, .bool false, .bool false, .int .i64 0, .nilIface, .bool false, .int .i64 0, .bool false, .int .i64 0] 85) := Blk.below (by first | exact hR1.out | exact hR1.out.drew) hb2; have hF2 : Hid (Below w.heap.size w w2) := (by first | exact hF1.out.trans (hb2.mono hF1.out.size) | exact hF1.out.drew.trans (hb2.mono hF1.out.size)); obtain ⟨c0, c1, c2, c3, c4, c5, c6, c7, c8, c9, c10, c11, c12, c13, f0, f1, f2, f3, f4, f5, f6, f7, f8, f9, f10, f11, f12, f13⟩ := hR2.out.all14; clear hb2)
      all_goals go_wp2
      all_goals (
        have z := (hR2.out.setAll14 (.int .i64 8) (.string (bs [125])) (.int .i64 0) (.int .i64 (p : Int)) (.int .i64 0) (.int .i64 0) (.bool false) (.bool true) (.int .i64 0) (.iface 107 (.agg #[])) (.bool false) (.int .i64 0) (.bool true) (.int .i64 0)).all14
        exact bodyPost_ret (v := .agg #[.int .i64 8, .string (bs [125]), .int .i64 0, .int .i64 (p : Int), .int .i64 0, .int .i64 0, .bool false, .bool true, .int .i64 0, .iface 107 (.agg #[]), .bool false, .int .i64 0, .bool true, .int .i64 0]) (by simp [results, Tryz.results169, go_sem, z]) rfl ⟨by rw [HT.out], (below_set14 hF2.out (Nat.le_succ _) (.int .i64 8) (.string (bs [125])) (.int .i64 0) (.int .i64 (p : Int)) (.int .i64 0) (.int .i64 0) (.bool false) (.bool true) (.int .i64 0) (.iface 107 (.agg #[])) (.bool false) (.int .i64 0) (.bool true) (.int .i64 0))⟩)

end Go.Proofs.YtldpldcfgkceeaaGreatDoor
