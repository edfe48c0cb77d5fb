/-
  Layout: what the mark of a line tells, by a contract.
-/
import Derived.Test.YtldpldcfgkceeaaGreatDoorQLay6z
namespace Go.Proofs.YtldpldcfgkceeaaGreatDoor
open Go.RowKit Go.Shelf Go.Maps
set_option linter.unusedVariables false

/-- A turn's value, laid out: its state is an interface's value, or none. -/
theorem turn_cells (t : L.Turn) : ∃ (a0 a2 a3 a4 a5 : Int) (a1 : ByteArray) (a6 a7 : Bool) (a8 : Int) (sv : Value) (a10 : Bool) (a11 : Int) (a12 : Bool) (a13 : Int), turnV t = .agg #[.int .i64 a0, .string a1, .int .i64 a2, .int .i64 a3, .int .i64 a4, .int .i64 a5, .bool a6, .bool a7, .int .i64 a8, sv, .bool a10, .int .i64 a11, .bool a12, .int .i64 a13] ∧ a8 = (t.err : Int) ∧ (sv = .nilIface ∨ ∃ ty v, sv = .iface ty v) := by
  obtain ⟨⟨⟨⟨k, tx, num⟩, pos, line, col, first⟩, imp⟩, err, st, beg, column, ends, owed⟩ := t
  refine ⟨_, _, _, _, _, _, _, _, _, _, _, _, _, _, rfl, rfl, ?_⟩
  cases st with
  | none => exact .inl rfl
  | some s => cases s <;> exact .inr ⟨_, _, rfl⟩

set_option maxHeartbeats 16000000 in
set_option maxRecDepth 100000 in
theorem lineNext_c (P e k : Nat) (s : L.S) (n : Nat) (ov : Option Addr) (cv : Nat) (bv : Value) (hbl : s.blocks.length ≤ 100000) (w : World) (h : Strm w P e s n ov cv bv) (hn2 : n ≤ 100000)
    (hN : ∀ W : World, Below w.heap.size w W → Calls Tryz.prog 168 #[.agg #[], .pointer (some ⟨P, 0, none⟩)] W fun r W' => r = .returned (turnV (L.plainNext e s.toks s.blocks)) ∧ Below W.heap.size W W') :
    Calls Tryz.prog 167 #[.int .i64 (k : Int), .pointer (some ⟨P, 0, none⟩)] w fun r W' => r = .returned (turnV (L.lineNext e k s.toks s.blocks)) ∧ Below w.heap.size w W' := by
  obtain ⟨p, hp'⟩ : ∃ p, L.place e s.toks = p := ⟨_, rfl⟩
  have hp : Hid (L.place e s.toks = p) := hp'
  clear hp'
  have hB0 : Hid (∀ o : Obj, Below w.heap.size w (w.alloc o)) := fun o => (Below.refl _ w).alloc (Nat.le_refl _) _
  have hC : Hid (∀ W : World, Below w.heap.size w W → Calls Tryz.prog 53 #[.pointer (some ⟨P, 0, none⟩)] W fun r W' => r = .returned (.int .i64 (L.col s.blocks : Nat)) ∧ Below W.heap.size W W') := fun W hW => column_c P e s n ov cv bv hbl W (h.below hW)
  have hI59 : Hid (∀ W : World, Below w.heap.size w W → Calls Tryz.prog 73 #[.pointer (some ⟨P, 0, none⟩), .string (bs [59])] W fun r W' => r = .returned (.agg #[.int .i64 8, .string (bs [59]), .int .i64 0, .int .i64 (p : Int), .int .i64 0, .int .i64 0, .bool false, .bool true]) ∧ Below W.heap.size W W') := by
    intro W hW
    have := implied_c P e s n ov cv bv [59] W (h.below hW)
    rw [show lxV (L.impl e s.toks [59]) = .agg #[.int .i64 8, .string (bs [59]), .int .i64 0, .int .i64 (p : Int), .int .i64 0, .int .i64 0, .bool false, .bool true] by rw [← hp.out]; exact rfl] at this
    exact this
  have hI125 : Hid (∀ W : World, Below w.heap.size w W → Calls Tryz.prog 73 #[.pointer (some ⟨P, 0, none⟩), .string (bs [125])] W fun r W' => r = .returned (.agg #[.int .i64 8, .string (bs [125]), .int .i64 0, .int .i64 (p : Int), .int .i64 0, .int .i64 0, .bool false, .bool true]) ∧ Below W.heap.size W W') := by
    intro W hW
    have := implied_c P e s n ov cv bv [125] W (h.below hW)
    rw [show lxV (L.impl e s.toks [125]) = .agg #[.int .i64 8, .string (bs [125]), .int .i64 0, .int .i64 (p : Int), .int .i64 0, .int .i64 0, .bool false, .bool true] by rw [← hp.out]; exact rfl] at this
    exact this
  have HN : Hid (∀ W : World, Below w.heap.size w W → Calls Tryz.prog 168 #[.agg #[], .pointer (some ⟨P, 0, none⟩)] W fun r W' => r = .returned (turnV (L.plainNext e s.toks s.blocks)) ∧ Below W.heap.size W W') := hN
  clear h hbl hN hn2
  by_cases hk1 : 0 < L.col s.blocks ∧ L.col s.blocks = k
  · have HT : Hid (turnV (L.lineNext e k s.toks s.blocks) = .agg #[.int .i64 8, .string (bs [59]), .int .i64 0, .int .i64 (p : Int), .int .i64 0, .int .i64 0, .bool false, .bool true, .int .i64 0, .iface 107 (.agg #[]), .bool false, .int .i64 0, .bool false, .int .i64 0]) := by
      show _ = _
      unfold L.lineNext
      rw [if_pos hk1, ← hp.out]
      rfl
    have c1 : (0 : Int) < ((L.col s.blocks : Nat) : Int) := by omega
    have c2 : ((L.col s.blocks : Nat) : Int) = (k : Int) := by omega
    generalize L.col s.blocks = c at *
    obtain rfl : c = k := by omega
    clear hk1 hp c2
    go_enter Tryz.func167, Tryz.ntmps167
    go_wp2_with (go_at_call 53; fail)
    refine (hC.out _ (hB0.out _)).mono ?_
    rintro r w1 ⟨rfl, hb1⟩
    have hF1 : Hid (Below w.heap.size w w1) := (hB0.out _).trans (hb1.mono (by simp))
    have hR1 : Hid (Blk w1 w.heap.size #[.int .i64 0, .string ⟨#[]⟩, .int .i64 0, .int .i64 0, .int .i64 0, .int .i64 0, .bool false, .bool false, .int .i64 0, .nilIface, .bool false, .int .i64 0, .bool false, .int .i64 0] 85) := (Blk.new w _ _).below hb1
    clear hb1
    go_wp2_with (go_at_call 73; fail)
    refine (hI59.out _ hF1.out).mono ?_
    rintro r w2 ⟨rfl, hb2⟩
    have hF2 : Hid (Below w.heap.size w w2) := hF1.out.trans (hb2.mono hF1.out.size)
    have hR2 : Hid (Blk w2 w.heap.size #[.int .i64 0, .string ⟨#[]⟩, .int .i64 0, .int .i64 0, .int .i64 0, .int .i64 0, .bool false, .bool false, .int .i64 0, .nilIface, .bool false, .int .i64 0, .bool false, .int .i64 0] 85) := hR1.out.below hb2
    clear hb2
    obtain ⟨c0, c1, c2, c3, c4, c5, c6, c7, c8, c9, c10, c11, c12, c13, f0, f1, f2, f3, f4, f5, f6, f7, f8, f9, f10, f11, f12, f13⟩ := hR2.out.all14
    go_wp2
    have z := (hR2.out.setAll14 (.int .i64 8) (.string (bs [59])) (.int .i64 0) (.int .i64 (p : Int)) (.int .i64 0) (.int .i64 0) (.bool false) (.bool true) (.int .i64 0) (.iface 107 (.agg #[])) (.bool false) (.int .i64 0) (.bool false) (.int .i64 0)).all14
    exact bodyPost_ret (v := .agg #[.int .i64 8, .string (bs [59]), .int .i64 0, .int .i64 (p : Int), .int .i64 0, .int .i64 0, .bool false, .bool true, .int .i64 0, .iface 107 (.agg #[]), .bool false, .int .i64 0, .bool false, .int .i64 0]) (by simp [results, Tryz.results167, go_sem, z]) rfl ⟨by rw [HT.out], (below_set14 hF2.out (Nat.le_refl _) (.int .i64 8) (.string (bs [59])) (.int .i64 0) (.int .i64 (p : Int)) (.int .i64 0) (.int .i64 0) (.bool false) (.bool true) (.int .i64 0) (.iface 107 (.agg #[])) (.bool false) (.int .i64 0) (.bool false) (.int .i64 0))⟩
  · by_cases hk2 : 0 < L.col s.blocks ∧ k < L.col s.blocks
    · have HT : Hid (turnV (L.lineNext e k s.toks s.blocks) = .agg #[.int .i64 8, .string (bs [125]), .int .i64 0, .int .i64 (p : Int), .int .i64 0, .int .i64 0, .bool false, .bool true, .int .i64 0, .iface 106 (.int .i64 (k : Int)), .bool false, .int .i64 0, .bool true, .int .i64 0]) := by
        show _ = _
        unfold L.lineNext
        rw [if_neg hk1, if_pos hk2, ← hp.out]
        rfl
      have c1 : (0 : Int) < ((L.col s.blocks : Nat) : Int) := by omega
      have c2 : (k : Int) < ((L.col s.blocks : Nat) : Int) := by omega
      have c3 : (((L.col s.blocks : Nat) : Int) == (k : Int)) = false := beq_eq_false_iff_ne.2 (by omega)
      generalize L.col s.blocks = c at *
      clear hk1 hk2 hp
      go_enter Tryz.func167, Tryz.ntmps167
      go_wp2_with (go_at_call 53; fail)
      refine (hC.out _ (hB0.out _)).mono ?_
      rintro r w1 ⟨rfl, hb1⟩
      have hF1 : Hid (Below w.heap.size w w1) := (hB0.out _).trans (hb1.mono (by simp))
      have hR1 : Hid (Blk w1 w.heap.size #[.int .i64 0, .string ⟨#[]⟩, .int .i64 0, .int .i64 0, .int .i64 0, .int .i64 0, .bool false, .bool false, .int .i64 0, .nilIface, .bool false, .int .i64 0, .bool false, .int .i64 0] 85) := (Blk.new w _ _).below hb1
      clear hb1
      go_wp2_with (go_at_call 73; fail)
      refine (hI125.out _ hF1.out).mono ?_
      rintro r w2 ⟨rfl, hb2⟩
      have hF2 : Hid (Below w.heap.size w w2) := hF1.out.trans (hb2.mono hF1.out.size)
      have hR2 : Hid (Blk w2 w.heap.size #[.int .i64 0, .string ⟨#[]⟩, .int .i64 0, .int .i64 0, .int .i64 0, .int .i64 0, .bool false, .bool false, .int .i64 0, .nilIface, .bool false, .int .i64 0, .bool false, .int .i64 0] 85) := hR1.out.below hb2
      clear hb2
      obtain ⟨c0, c1, c2, c3, c4, c5, c6, c7, c8, c9, c10, c11, c12, c13, f0, f1, f2, f3, f4, f5, f6, f7, f8, f9, f10, f11, f12, f13⟩ := hR2.out.all14
      go_wp2
      have z := (hR2.out.setAll14 (.int .i64 8) (.string (bs [125])) (.int .i64 0) (.int .i64 (p : Int)) (.int .i64 0) (.int .i64 0) (.bool false) (.bool true) (.int .i64 0) (.iface 106 (.int .i64 (k : Int))) (.bool false) (.int .i64 0) (.bool true) (.int .i64 0)).all14
      exact bodyPost_ret (v := .agg #[.int .i64 8, .string (bs [125]), .int .i64 0, .int .i64 (p : Int), .int .i64 0, .int .i64 0, .bool false, .bool true, .int .i64 0, .iface 106 (.int .i64 (k : Int)), .bool false, .int .i64 0, .bool true, .int .i64 0]) (by simp [results, Tryz.results167, go_sem, z]) rfl ⟨by rw [HT.out], (below_set14 hF2.out (Nat.le_refl _) (.int .i64 8) (.string (bs [125])) (.int .i64 0) (.int .i64 (p : Int)) (.int .i64 0) (.int .i64 0) (.bool false) (.bool true) (.int .i64 0) (.iface 106 (.int .i64 (k : Int))) (.bool false) (.int .i64 0) (.bool true) (.int .i64 0))⟩
    · have c1 : L.col s.blocks = 0 ∨ (0 < L.col s.blocks ∧ L.col s.blocks < k) := by omega
      have HE : Hid (L.lineNext e k s.toks s.blocks = L.plainNext e s.toks s.blocks) := by show _ = _; unfold L.lineNext; rw [if_neg hk1, if_neg hk2]
      clear hk1 hk2 hp
      rw [HE.out]
      obtain ⟨a0, a2, a3, a4, a5, a1, a6, a7, a8, sv, a10, a11, a12, a13, hT, -, hsv⟩ := turn_cells (L.plainNext e s.toks s.blocks)
      rw [hT] at HN
      have HT : Hid (turnV (L.plainNext e s.toks s.blocks) = .agg #[.int .i64 a0, .string a1, .int .i64 a2, .int .i64 a3, .int .i64 a4, .int .i64 a5, .bool a6, .bool a7, .int .i64 a8, sv, .bool a10, .int .i64 a11, .bool a12, .int .i64 a13]) := hT
      clear hT
      generalize L.col s.blocks = c at *
      rcases c1 with c1 | ⟨c1, c2⟩
      · rcases hsv with rfl | ⟨ty, v, rfl⟩
        · subst c1
          go_enter Tryz.func167, Tryz.ntmps167
          go_wp2_with (go_at_call 53; fail)
          refine (hC.out _ (hB0.out _)).mono ?_
          rintro r w1 ⟨rfl, hb1⟩
          have hF1 : Hid (Below w.heap.size w w1) := (hB0.out _).trans (hb1.mono (by simp))
          have hR1 : Hid (Blk w1 w.heap.size #[.int .i64 0, .string ⟨#[]⟩, .int .i64 0, .int .i64 0, .int .i64 0, .int .i64 0, .bool false, .bool false, .int .i64 0, .nilIface, .bool false, .int .i64 0, .bool false, .int .i64 0] 85) := (Blk.new w _ _).below hb1
          clear hb1
          go_wp2_with (go_at_call 168; fail)
          refine (HN.out _ hF1.out).mono ?_
          rintro r w2 ⟨rfl, hb2⟩
          have hF2 : Hid (Below w.heap.size w w2) := hF1.out.trans (hb2.mono hF1.out.size)
          have hR2 : Hid (Blk w2 w.heap.size #[.int .i64 0, .string ⟨#[]⟩, .int .i64 0, .int .i64 0, .int .i64 0, .int .i64 0, .bool false, .bool false, .int .i64 0, .nilIface, .bool false, .int .i64 0, .bool false, .int .i64 0] 85) := hR1.out.below hb2
          clear hb2
          obtain ⟨c0, c1, c2, c3, c4, c5, c6, c7, c8, c9, c10, c11, c12, c13, f0, f1, f2, f3, f4, f5, f6, f7, f8, f9, f10, f11, f12, f13⟩ := hR2.out.all14
          go_wp2
          have z := (hR2.out.setAll14 (.int .i64 a0) (.string a1) (.int .i64 a2) (.int .i64 a3) (.int .i64 a4) (.int .i64 a5) (.bool a6) (.bool a7) (.int .i64 a8) (.nilIface) (.bool a10) (.int .i64 a11) (.bool a12) (.int .i64 a13)).all14
          exact bodyPost_ret (v := .agg #[.int .i64 a0, .string a1, .int .i64 a2, .int .i64 a3, .int .i64 a4, .int .i64 a5, .bool a6, .bool a7, .int .i64 a8, .nilIface, .bool a10, .int .i64 a11, .bool a12, .int .i64 a13]) (by simp [results, Tryz.results167, go_sem, z]) rfl ⟨by rw [HT.out], (below_set14 hF2.out (Nat.le_refl _) (.int .i64 a0) (.string a1) (.int .i64 a2) (.int .i64 a3) (.int .i64 a4) (.int .i64 a5) (.bool a6) (.bool a7) (.int .i64 a8) (.nilIface) (.bool a10) (.int .i64 a11) (.bool a12) (.int .i64 a13))⟩
        · subst c1
          go_enter Tryz.func167, Tryz.ntmps167
          go_wp2_with (go_at_call 53; fail)
          refine (hC.out _ (hB0.out _)).mono ?_
          rintro r w1 ⟨rfl, hb1⟩
          have hF1 : Hid (Below w.heap.size w w1) := (hB0.out _).trans (hb1.mono (by simp))
          have hR1 : Hid (Blk w1 w.heap.size #[.int .i64 0, .string ⟨#[]⟩, .int .i64 0, .int .i64 0, .int .i64 0, .int .i64 0, .bool false, .bool false, .int .i64 0, .nilIface, .bool false, .int .i64 0, .bool false, .int .i64 0] 85) := (Blk.new w _ _).below hb1
          clear hb1
          go_wp2_with (go_at_call 168; fail)
          refine (HN.out _ hF1.out).mono ?_
          rintro r w2 ⟨rfl, hb2⟩
          have hF2 : Hid (Below w.heap.size w w2) := hF1.out.trans (hb2.mono hF1.out.size)
          have hR2 : Hid (Blk w2 w.heap.size #[.int .i64 0, .string ⟨#[]⟩, .int .i64 0, .int .i64 0, .int .i64 0, .int .i64 0, .bool false, .bool false, .int .i64 0, .nilIface, .bool false, .int .i64 0, .bool false, .int .i64 0] 85) := hR1.out.below hb2
          clear hb2
          obtain ⟨c0, c1, c2, c3, c4, c5, c6, c7, c8, c9, c10, c11, c12, c13, f0, f1, f2, f3, f4, f5, f6, f7, f8, f9, f10, f11, f12, f13⟩ := hR2.out.all14
          go_wp2
          have z := (hR2.out.setAll14 (.int .i64 a0) (.string a1) (.int .i64 a2) (.int .i64 a3) (.int .i64 a4) (.int .i64 a5) (.bool a6) (.bool a7) (.int .i64 a8) (.iface ty v) (.bool a10) (.int .i64 a11) (.bool a12) (.int .i64 a13)).all14
          exact bodyPost_ret (v := .agg #[.int .i64 a0, .string a1, .int .i64 a2, .int .i64 a3, .int .i64 a4, .int .i64 a5, .bool a6, .bool a7, .int .i64 a8, .iface ty v, .bool a10, .int .i64 a11, .bool a12, .int .i64 a13]) (by simp [results, Tryz.results167, go_sem, z]) rfl ⟨by rw [HT.out], (below_set14 hF2.out (Nat.le_refl _) (.int .i64 a0) (.string a1) (.int .i64 a2) (.int .i64 a3) (.int .i64 a4) (.int .i64 a5) (.bool a6) (.bool a7) (.int .i64 a8) (.iface ty v) (.bool a10) (.int .i64 a11) (.bool a12) (.int .i64 a13))⟩
      · rcases hsv with rfl | ⟨ty, v, rfl⟩
        · have d1 : (0 : Int) < (c : Int) := by omega
          have d2 : ((c : Int) == (k : Int)) = false := beq_eq_false_iff_ne.2 (by omega)
          have d3 : decide (k < c) = false := decide_eq_false (by omega)
          have d4 : decide ((k : Int) < (c : Int)) = false := decide_eq_false (by omega)
          clear c1 c2
          go_enter Tryz.func167, Tryz.ntmps167
          go_wp2_with (go_at_call 53; fail)
          refine (hC.out _ (hB0.out _)).mono ?_
          rintro r w1 ⟨rfl, hb1⟩
          have hF1 : Hid (Below w.heap.size w w1) := (hB0.out _).trans (hb1.mono (by simp))
          have hR1 : Hid (Blk w1 w.heap.size #[.int .i64 0, .string ⟨#[]⟩, .int .i64 0, .int .i64 0, .int .i64 0, .int .i64 0, .bool false, .bool false, .int .i64 0, .nilIface, .bool false, .int .i64 0, .bool false, .int .i64 0] 85) := (Blk.new w _ _).below hb1
          clear hb1
          go_wp2_with (go_at_call 168; fail)
          refine (HN.out _ hF1.out).mono ?_
          rintro r w2 ⟨rfl, hb2⟩
          have hF2 : Hid (Below w.heap.size w w2) := hF1.out.trans (hb2.mono hF1.out.size)
          have hR2 : Hid (Blk w2 w.heap.size #[.int .i64 0, .string ⟨#[]⟩, .int .i64 0, .int .i64 0, .int .i64 0, .int .i64 0, .bool false, .bool false, .int .i64 0, .nilIface, .bool false, .int .i64 0, .bool false, .int .i64 0] 85) := hR1.out.below hb2
          clear hb2
          obtain ⟨c0, c1, c2, c3, c4, c5, c6, c7, c8, c9, c10, c11, c12, c13, f0, f1, f2, f3, f4, f5, f6, f7, f8, f9, f10, f11, f12, f13⟩ := hR2.out.all14
          go_wp2
          have z := (hR2.out.setAll14 (.int .i64 a0) (.string a1) (.int .i64 a2) (.int .i64 a3) (.int .i64 a4) (.int .i64 a5) (.bool a6) (.bool a7) (.int .i64 a8) (.nilIface) (.bool a10) (.int .i64 a11) (.bool a12) (.int .i64 a13)).all14
          exact bodyPost_ret (v := .agg #[.int .i64 a0, .string a1, .int .i64 a2, .int .i64 a3, .int .i64 a4, .int .i64 a5, .bool a6, .bool a7, .int .i64 a8, .nilIface, .bool a10, .int .i64 a11, .bool a12, .int .i64 a13]) (by simp [results, Tryz.results167, go_sem, z]) rfl ⟨by rw [HT.out], (below_set14 hF2.out (Nat.le_refl _) (.int .i64 a0) (.string a1) (.int .i64 a2) (.int .i64 a3) (.int .i64 a4) (.int .i64 a5) (.bool a6) (.bool a7) (.int .i64 a8) (.nilIface) (.bool a10) (.int .i64 a11) (.bool a12) (.int .i64 a13))⟩
        · have d1 : (0 : Int) < (c : Int) := by omega
          have d2 : ((c : Int) == (k : Int)) = false := beq_eq_false_iff_ne.2 (by omega)
          have d3 : decide (k < c) = false := decide_eq_false (by omega)
          have d4 : decide ((k : Int) < (c : Int)) = false := decide_eq_false (by omega)
          clear c1 c2
          go_enter Tryz.func167, Tryz.ntmps167
          go_wp2_with (go_at_call 53; fail)
          refine (hC.out _ (hB0.out _)).mono ?_
          rintro r w1 ⟨rfl, hb1⟩
          have hF1 : Hid (Below w.heap.size w w1) := (hB0.out _).trans (hb1.mono (by simp))
          have hR1 : Hid (Blk w1 w.heap.size #[.int .i64 0, .string ⟨#[]⟩, .int .i64 0, .int .i64 0, .int .i64 0, .int .i64 0, .bool false, .bool false, .int .i64 0, .nilIface, .bool false, .int .i64 0, .bool false, .int .i64 0] 85) := (Blk.new w _ _).below hb1
          clear hb1
          go_wp2_with (go_at_call 168; fail)
          refine (HN.out _ hF1.out).mono ?_
          rintro r w2 ⟨rfl, hb2⟩
          have hF2 : Hid (Below w.heap.size w w2) := hF1.out.trans (hb2.mono hF1.out.size)
          have hR2 : Hid (Blk w2 w.heap.size #[.int .i64 0, .string ⟨#[]⟩, .int .i64 0, .int .i64 0, .int .i64 0, .int .i64 0, .bool false, .bool false, .int .i64 0, .nilIface, .bool false, .int .i64 0, .bool false, .int .i64 0] 85) := hR1.out.below hb2
          clear hb2
          obtain ⟨c0, c1, c2, c3, c4, c5, c6, c7, c8, c9, c10, c11, c12, c13, f0, f1, f2, f3, f4, f5, f6, f7, f8, f9, f10, f11, f12, f13⟩ := hR2.out.all14
          go_wp2
          have z := (hR2.out.setAll14 (.int .i64 a0) (.string a1) (.int .i64 a2) (.int .i64 a3) (.int .i64 a4) (.int .i64 a5) (.bool a6) (.bool a7) (.int .i64 a8) (.iface ty v) (.bool a10) (.int .i64 a11) (.bool a12) (.int .i64 a13)).all14
          exact bodyPost_ret (v := .agg #[.int .i64 a0, .string a1, .int .i64 a2, .int .i64 a3, .int .i64 a4, .int .i64 a5, .bool a6, .bool a7, .int .i64 a8, .iface ty v, .bool a10, .int .i64 a11, .bool a12, .int .i64 a13]) (by simp [results, Tryz.results167, go_sem, z]) rfl ⟨by rw [HT.out], (below_set14 hF2.out (Nat.le_refl _) (.int .i64 a0) (.string a1) (.int .i64 a2) (.int .i64 a3) (.int .i64 a4) (.int .i64 a5) (.bool a6) (.bool a7) (.int .i64 a8) (.iface ty v) (.bool a10) (.int .i64 a11) (.bool a12) (.int .i64 a13))⟩

end Go.Proofs.YtldpldcfgkceeaaGreatDoor
