/-
  Layout: what comes next of a stream, put together.
-/
import Derived.Test.YtldpldcfgkceeaaGreatDoorQLay8
namespace Go.Proofs.YtldpldcfgkceeaaGreatDoor
open Go.RowKit Go.Shelf Go.Maps
set_option linter.unusedVariables false

set_option maxHeartbeats 4000000 in
set_option maxRecDepth 100000 in
theorem plain_c (P e : Nat) (s : L.S) (n : Nat) (ov : Option Addr) (cv : Nat) (bv : Value) (hbl : s.blocks.length ≤ 100000) (w : World) (h : Strm w P e s n ov cv bv) (hn2 : n ≤ 100000) :
    Calls Tryz.prog 168 #[.agg #[], .pointer (some ⟨P, 0, none⟩)] w fun r W' => r = .returned (turnV (L.plainNext e s.toks s.blocks)) ∧ Below w.heap.size w W' := by
  cases ht : s.toks with
  | cons t l =>
    obtain ⟨⟨k, tx, num⟩, pos, line, tc, first⟩ := t
    rw [← ht]
    exact plainTok_c P e s n ov cv bv hbl w h k tx num pos line tc first l ht hn2
  | nil =>
    rw [← ht]
    obtain ⟨a0, a2, a3, a4, a5, a1, a6, a7, a8, sv, a10, a11, a12, a13, hT, -, hsv⟩ := turn_cells (L.plainNext e s.toks s.blocks)
    have hL : Hid (∀ W : World, Below w.heap.size w W → Calls Tryz.prog 169 #[.agg #[], .pointer (some ⟨P, 0, none⟩)] W fun r W' => r = .returned (turnV (L.plainNext e s.toks s.blocks)) ∧ Below W.heap.size W W') := fun W hW => last_c P e s n ov cv bv hbl W (h.below hW) ht
    obtain rfl : n = 0 := by rw [← h.len, ht]; rfl
    obtain ⟨q0, q1, q2, q3, q4, g0, g1, g2, g3, g4⟩ := h.blk.all5
    have hPl : P < w.heap.size := h.blk.lt
    have hBB : Hid (∀ o o' : Obj, Below w.heap.size w ((w.alloc o).alloc o')) := fun o o' => ((Below.refl _ w).alloc (Nat.le_refl _) _).alloc (by simp) _
    rw [hT] at hL ⊢
    clear h hT ht hbl hn2
    rcases hsv with rfl | ⟨ty, v, rfl⟩
    · go_enter Tryz.func168, Tryz.ntmps168
      go_wp2_with (go_at_call 169; fail)
      refine (hL.out _ (hBB.out _ _)).mono ?_
      rintro r w1 ⟨rfl, hb1⟩
      have hF1 : Hid (Below w.heap.size w w1) := (hBB.out _ _).trans (hb1.mono (by simp; omega))
      have hR1 : Hid (Blk w1 (w.heap.size + 1) #[.int .i64 0, .string ⟨#[]⟩, .int .i64 0, .int .i64 0, .int .i64 0, .int .i64 0, .bool false, .bool false, .int .i64 0, .nilIface, .bool false, .int .i64 0, .bool false, .int .i64 0] 85) := (Blk.new1 w _ _ _).below hb1
      clear hb1 q0 q1 q2 q3 q4 g0 g1 g2 g3 g4
      obtain ⟨c0, c1, c2, c3, c4, c5, c6, c7, c8, c9, c10, c11, c12, c13, f0, f1, f2, f3, f4, f5, f6, f7, f8, f9, f10, f11, f12, f13⟩ := hR1.out.all14
      go_wp2
      have z := (hR1.out.setAll14 (.int .i64 a0) (.string a1) (.int .i64 a2) (.int .i64 a3) (.int .i64 a4) (.int .i64 a5) (.bool a6) (.bool a7) (.int .i64 a8) (.nilIface) (.bool a10) (.int .i64 a11) (.bool a12) (.int .i64 a13)).all14
      exact bodyPost_ret (v := .agg #[.int .i64 a0, .string a1, .int .i64 a2, .int .i64 a3, .int .i64 a4, .int .i64 a5, .bool a6, .bool a7, .int .i64 a8, .nilIface, .bool a10, .int .i64 a11, .bool a12, .int .i64 a13]) (by simp [results, Tryz.results168, go_sem, z]) rfl ⟨rfl, below_set14 hF1.out (Nat.le_succ _) (.int .i64 a0) (.string a1) (.int .i64 a2) (.int .i64 a3) (.int .i64 a4) (.int .i64 a5) (.bool a6) (.bool a7) (.int .i64 a8) (.nilIface) (.bool a10) (.int .i64 a11) (.bool a12) (.int .i64 a13)⟩
    · go_enter Tryz.func168, Tryz.ntmps168
      go_wp2_with (go_at_call 169; fail)
      refine (hL.out _ (hBB.out _ _)).mono ?_
      rintro r w1 ⟨rfl, hb1⟩
      have hF1 : Hid (Below w.heap.size w w1) := (hBB.out _ _).trans (hb1.mono (by simp; omega))
      have hR1 : Hid (Blk w1 (w.heap.size + 1) #[.int .i64 0, .string ⟨#[]⟩, .int .i64 0, .int .i64 0, .int .i64 0, .int .i64 0, .bool false, .bool false, .int .i64 0, .nilIface, .bool false, .int .i64 0, .bool false, .int .i64 0] 85) := (Blk.new1 w _ _ _).below hb1
      clear hb1 q0 q1 q2 q3 q4 g0 g1 g2 g3 g4
      obtain ⟨c0, c1, c2, c3, c4, c5, c6, c7, c8, c9, c10, c11, c12, c13, f0, f1, f2, f3, f4, f5, f6, f7, f8, f9, f10, f11, f12, f13⟩ := hR1.out.all14
      go_wp2
      have z := (hR1.out.setAll14 (.int .i64 a0) (.string a1) (.int .i64 a2) (.int .i64 a3) (.int .i64 a4) (.int .i64 a5) (.bool a6) (.bool a7) (.int .i64 a8) (.iface ty v) (.bool a10) (.int .i64 a11) (.bool a12) (.int .i64 a13)).all14
      exact bodyPost_ret (v := .agg #[.int .i64 a0, .string a1, .int .i64 a2, .int .i64 a3, .int .i64 a4, .int .i64 a5, .bool a6, .bool a7, .int .i64 a8, .iface ty v, .bool a10, .int .i64 a11, .bool a12, .int .i64 a13]) (by simp [results, Tryz.results168, go_sem, z]) rfl ⟨rfl, below_set14 hF1.out (Nat.le_succ _) (.int .i64 a0) (.string a1) (.int .i64 a2) (.int .i64 a3) (.int .i64 a4) (.int .i64 a5) (.bool a6) (.bool a7) (.int .i64 a8) (.iface ty v) (.bool a10) (.int .i64 a11) (.bool a12) (.int .i64 a13)⟩

/-- The method that a state's value names. -/
theorem methO (k : Int) (w : World) : (method 297 105 (.int .i64 k) "thunkmill/layout.next").run Tryz.prog w = .ok (166, .int .i64 k) w := by kernel_rfl
theorem methL (k : Int) (w : World) : (method 297 106 (.int .i64 k) "thunkmill/layout.next").run Tryz.prog w = .ok (167, .int .i64 k) w := by kernel_rfl
theorem methP (w : World) : (method 297 107 (.agg #[]) "thunkmill/layout.next").run Tryz.prog w = .ok (168, .agg #[]) w := by kernel_rfl

set_option maxHeartbeats 4000000 in
set_option maxRecDepth 100000 in
theorem comingOpen_c (P e : Nat) (s : L.S) (n : Nat) (ov : Option Addr) (cv : Nat) (bv : Value) (hbl : s.blocks.length ≤ 100000) (w : World) (h : Strm w P e s n ov cv bv) (hn2 : n ≤ 100000) (ho : s.owed = 0) (k : Nat) (hst : s.st = .opening k) :
    Calls Tryz.prog 46 #[.pointer (some ⟨P, 0, none⟩)] w fun r W' => r = .returned (turnV (L.coming e s)) ∧ Below w.heap.size w W' := by
  obtain ⟨q0, q1, q2, q3, q4, g0, g1, g2, g3, g4⟩ := h.blk.all5
  have hE : L.coming e s = L.openNext e k s.toks s.blocks := by unfold L.coming; rw [if_neg (by omega), hst]; rfl
  have hN : Hid (∀ W : World, Below w.heap.size w W → Calls Tryz.prog 166 #[.int .i64 (k : Int), .pointer (some ⟨P, 0, none⟩)] W fun r W' => r = .returned (turnV (L.openNext e k s.toks s.blocks)) ∧ Below W.heap.size W W') := fun W hW => openNext_c P e k s n ov cv bv hbl W (h.below hW)
  obtain ⟨a0, a2, a3, a4, a5, a1, a6, a7, a8, sv, a10, a11, a12, a13, hT, -, hsv⟩ := turn_cells (L.openNext e k s.toks s.blocks)
  rw [hE]
  rw [hT] at hN ⊢
  rw [hst] at q2
  rw [ho] at q4
  simp only [stV] at q2
  have hPl : P < w.heap.size := h.blk.lt
  have hB0 : Hid (∀ o : Obj, Below w.heap.size w (w.alloc o)) := fun o => (Below.refl _ w).alloc (Nat.le_refl _) _
  have hm := methO
  clear h hT hE hbl hn2 ho hst
  rcases hsv with rfl | ⟨ty, v, rfl⟩
  · go_enter Tryz.func46, Tryz.ntmps46
    go_wp2_with (go_at_call 166; fail)
    refine (hN.out _ (hB0.out _)).mono ?_
    rintro r w1 ⟨rfl, hb1⟩
    have hF1 : Hid (Below w.heap.size w w1) := (hB0.out _).trans (hb1.mono (by simp))
    have hR1 : Hid (Blk w1 w.heap.size #[.int .i64 0, .string ⟨#[]⟩, .int .i64 0, .int .i64 0, .int .i64 0, .int .i64 0, .bool false, .bool false, .int .i64 0, .nilIface, .bool false, .int .i64 0, .bool false, .int .i64 0] 85) := (Blk.new w _ _).below hb1
    clear hb1 q0 q1 q2 q3 q4 g0 g1 g2 g3 g4
    obtain ⟨c0, c1, c2, c3, c4, c5, c6, c7, c8, c9, c10, c11, c12, c13, f0, f1, f2, f3, f4, f5, f6, f7, f8, f9, f10, f11, f12, f13⟩ := hR1.out.all14
    go_wp2
    have z := (hR1.out.setAll14 (.int .i64 a0) (.string a1) (.int .i64 a2) (.int .i64 a3) (.int .i64 a4) (.int .i64 a5) (.bool a6) (.bool a7) (.int .i64 a8) (.nilIface) (.bool a10) (.int .i64 a11) (.bool a12) (.int .i64 a13)).all14
    exact bodyPost_ret (v := .agg #[.int .i64 a0, .string a1, .int .i64 a2, .int .i64 a3, .int .i64 a4, .int .i64 a5, .bool a6, .bool a7, .int .i64 a8, .nilIface, .bool a10, .int .i64 a11, .bool a12, .int .i64 a13]) (by simp [results, Tryz.results46, go_sem, z]) rfl ⟨rfl, below_set14 hF1.out (Nat.le_refl _) (.int .i64 a0) (.string a1) (.int .i64 a2) (.int .i64 a3) (.int .i64 a4) (.int .i64 a5) (.bool a6) (.bool a7) (.int .i64 a8) (.nilIface) (.bool a10) (.int .i64 a11) (.bool a12) (.int .i64 a13)⟩
  · go_enter Tryz.func46, Tryz.ntmps46
    go_wp2_with (go_at_call 166; fail)
    refine (hN.out _ (hB0.out _)).mono ?_
    rintro r w1 ⟨rfl, hb1⟩
    have hF1 : Hid (Below w.heap.size w w1) := (hB0.out _).trans (hb1.mono (by simp))
    have hR1 : Hid (Blk w1 w.heap.size #[.int .i64 0, .string ⟨#[]⟩, .int .i64 0, .int .i64 0, .int .i64 0, .int .i64 0, .bool false, .bool false, .int .i64 0, .nilIface, .bool false, .int .i64 0, .bool false, .int .i64 0] 85) := (Blk.new w _ _).below hb1
    clear hb1 q0 q1 q2 q3 q4 g0 g1 g2 g3 g4
    obtain ⟨c0, c1, c2, c3, c4, c5, c6, c7, c8, c9, c10, c11, c12, c13, f0, f1, f2, f3, f4, f5, f6, f7, f8, f9, f10, f11, f12, f13⟩ := hR1.out.all14
    go_wp2
    have z := (hR1.out.setAll14 (.int .i64 a0) (.string a1) (.int .i64 a2) (.int .i64 a3) (.int .i64 a4) (.int .i64 a5) (.bool a6) (.bool a7) (.int .i64 a8) (.iface ty v) (.bool a10) (.int .i64 a11) (.bool a12) (.int .i64 a13)).all14
    exact bodyPost_ret (v := .agg #[.int .i64 a0, .string a1, .int .i64 a2, .int .i64 a3, .int .i64 a4, .int .i64 a5, .bool a6, .bool a7, .int .i64 a8, .iface ty v, .bool a10, .int .i64 a11, .bool a12, .int .i64 a13]) (by simp [results, Tryz.results46, go_sem, z]) rfl ⟨rfl, below_set14 hF1.out (Nat.le_refl _) (.int .i64 a0) (.string a1) (.int .i64 a2) (.int .i64 a3) (.int .i64 a4) (.int .i64 a5) (.bool a6) (.bool a7) (.int .i64 a8) (.iface ty v) (.bool a10) (.int .i64 a11) (.bool a12) (.int .i64 a13)⟩

set_option maxHeartbeats 4000000 in
set_option maxRecDepth 100000 in
theorem comingLine_c (P e : Nat) (s : L.S) (n : Nat) (ov : Option Addr) (cv : Nat) (bv : Value) (hbl : s.blocks.length ≤ 100000) (w : World) (h : Strm w P e s n ov cv bv) (hn2 : n ≤ 100000) (ho : s.owed = 0) (k : Nat) (hst : s.st = .lining k) :
    Calls Tryz.prog 46 #[.pointer (some ⟨P, 0, none⟩)] w fun r W' => r = .returned (turnV (L.coming e s)) ∧ Below w.heap.size w W' := by
  obtain ⟨q0, q1, q2, q3, q4, g0, g1, g2, g3, g4⟩ := h.blk.all5
  have hE : L.coming e s = L.lineNext e k s.toks s.blocks := by unfold L.coming; rw [if_neg (by omega), hst]; rfl
  have hN : Hid (∀ W : World, Below w.heap.size w W → Calls Tryz.prog 167 #[.int .i64 (k : Int), .pointer (some ⟨P, 0, none⟩)] W fun r W' => r = .returned (turnV (L.lineNext e k s.toks s.blocks)) ∧ Below W.heap.size W W') := fun W hW => lineNext_c P e k s n ov cv bv hbl W (h.below hW) hn2 (fun V hV => plain_c P e s n ov cv bv hbl V ((h.below hW).below hV) hn2)
  obtain ⟨a0, a2, a3, a4, a5, a1, a6, a7, a8, sv, a10, a11, a12, a13, hT, -, hsv⟩ := turn_cells (L.lineNext e k s.toks s.blocks)
  rw [hE]
  rw [hT] at hN ⊢
  rw [hst] at q2
  rw [ho] at q4
  simp only [stV] at q2
  have hPl : P < w.heap.size := h.blk.lt
  have hB0 : Hid (∀ o : Obj, Below w.heap.size w (w.alloc o)) := fun o => (Below.refl _ w).alloc (Nat.le_refl _) _
  have hm := methL
  clear h hT hE hbl hn2 ho hst
  rcases hsv with rfl | ⟨ty, v, rfl⟩
  · go_enter Tryz.func46, Tryz.ntmps46
    go_wp2_with (go_at_call 167; fail)
    refine (hN.out _ (hB0.out _)).mono ?_
    rintro r w1 ⟨rfl, hb1⟩
    have hF1 : Hid (Below w.heap.size w w1) := (hB0.out _).trans (hb1.mono (by simp))
    have hR1 : Hid (Blk w1 w.heap.size #[.int .i64 0, .string ⟨#[]⟩, .int .i64 0, .int .i64 0, .int .i64 0, .int .i64 0, .bool false, .bool false, .int .i64 0, .nilIface, .bool false, .int .i64 0, .bool false, .int .i64 0] 85) := (Blk.new w _ _).below hb1
    clear hb1 q0 q1 q2 q3 q4 g0 g1 g2 g3 g4
    obtain ⟨c0, c1, c2, c3, c4, c5, c6, c7, c8, c9, c10, c11, c12, c13, f0, f1, f2, f3, f4, f5, f6, f7, f8, f9, f10, f11, f12, f13⟩ := hR1.out.all14
    go_wp2
    have z := (hR1.out.setAll14 (.int .i64 a0) (.string a1) (.int .i64 a2) (.int .i64 a3) (.int .i64 a4) (.int .i64 a5) (.bool a6) (.bool a7) (.int .i64 a8) (.nilIface) (.bool a10) (.int .i64 a11) (.bool a12) (.int .i64 a13)).all14
    exact bodyPost_ret (v := .agg #[.int .i64 a0, .string a1, .int .i64 a2, .int .i64 a3, .int .i64 a4, .int .i64 a5, .bool a6, .bool a7, .int .i64 a8, .nilIface, .bool a10, .int .i64 a11, .bool a12, .int .i64 a13]) (by simp [results, Tryz.results46, go_sem, z]) rfl ⟨rfl, below_set14 hF1.out (Nat.le_refl _) (.int .i64 a0) (.string a1) (.int .i64 a2) (.int .i64 a3) (.int .i64 a4) (.int .i64 a5) (.bool a6) (.bool a7) (.int .i64 a8) (.nilIface) (.bool a10) (.int .i64 a11) (.bool a12) (.int .i64 a13)⟩
  · go_enter Tryz.func46, Tryz.ntmps46
    go_wp2_with (go_at_call 167; fail)
    refine (hN.out _ (hB0.out _)).mono ?_
    rintro r w1 ⟨rfl, hb1⟩
    have hF1 : Hid (Below w.heap.size w w1) := (hB0.out _).trans (hb1.mono (by simp))
    have hR1 : Hid (Blk w1 w.heap.size #[.int .i64 0, .string ⟨#[]⟩, .int .i64 0, .int .i64 0, .int .i64 0, .int .i64 0, .bool false, .bool false, .int .i64 0, .nilIface, .bool false, .int .i64 0, .bool false, .int .i64 0] 85) := (Blk.new w _ _).below hb1
    clear hb1 q0 q1 q2 q3 q4 g0 g1 g2 g3 g4
    obtain ⟨c0, c1, c2, c3, c4, c5, c6, c7, c8, c9, c10, c11, c12, c13, f0, f1, f2, f3, f4, f5, f6, f7, f8, f9, f10, f11, f12, f13⟩ := hR1.out.all14
    go_wp2
    have z := (hR1.out.setAll14 (.int .i64 a0) (.string a1) (.int .i64 a2) (.int .i64 a3) (.int .i64 a4) (.int .i64 a5) (.bool a6) (.bool a7) (.int .i64 a8) (.iface ty v) (.bool a10) (.int .i64 a11) (.bool a12) (.int .i64 a13)).all14
    exact bodyPost_ret (v := .agg #[.int .i64 a0, .string a1, .int .i64 a2, .int .i64 a3, .int .i64 a4, .int .i64 a5, .bool a6, .bool a7, .int .i64 a8, .iface ty v, .bool a10, .int .i64 a11, .bool a12, .int .i64 a13]) (by simp [results, Tryz.results46, go_sem, z]) rfl ⟨rfl, below_set14 hF1.out (Nat.le_refl _) (.int .i64 a0) (.string a1) (.int .i64 a2) (.int .i64 a3) (.int .i64 a4) (.int .i64 a5) (.bool a6) (.bool a7) (.int .i64 a8) (.iface ty v) (.bool a10) (.int .i64 a11) (.bool a12) (.int .i64 a13)⟩

set_option maxHeartbeats 4000000 in
set_option maxRecDepth 100000 in
theorem comingPlain_c (P e : Nat) (s : L.S) (n : Nat) (ov : Option Addr) (cv : Nat) (bv : Value) (hbl : s.blocks.length ≤ 100000) (w : World) (h : Strm w P e s n ov cv bv) (hn2 : n ≤ 100000) (ho : s.owed = 0) (hst : s.st = .plain) :
    Calls Tryz.prog 46 #[.pointer (some ⟨P, 0, none⟩)] w fun r W' => r = .returned (turnV (L.coming e s)) ∧ Below w.heap.size w W' := by
  obtain ⟨q0, q1, q2, q3, q4, g0, g1, g2, g3, g4⟩ := h.blk.all5
  have hE : L.coming e s = L.plainNext e s.toks s.blocks := by unfold L.coming; rw [if_neg (by omega), hst]; rfl
  have hN : Hid (∀ W : World, Below w.heap.size w W → Calls Tryz.prog 168 #[.agg #[], .pointer (some ⟨P, 0, none⟩)] W fun r W' => r = .returned (turnV (L.plainNext e s.toks s.blocks)) ∧ Below W.heap.size W W') := fun W hW => plain_c P e s n ov cv bv hbl W (h.below hW) hn2
  obtain ⟨a0, a2, a3, a4, a5, a1, a6, a7, a8, sv, a10, a11, a12, a13, hT, -, hsv⟩ := turn_cells (L.plainNext e s.toks s.blocks)
  rw [hE]
  rw [hT] at hN ⊢
  rw [hst] at q2
  rw [ho] at q4
  simp only [stV] at q2
  have hPl : P < w.heap.size := h.blk.lt
  have hB0 : Hid (∀ o : Obj, Below w.heap.size w (w.alloc o)) := fun o => (Below.refl _ w).alloc (Nat.le_refl _) _
  have hm := methP
  clear h hT hE hbl hn2 ho hst
  rcases hsv with rfl | ⟨ty, v, rfl⟩
  · go_enter Tryz.func46, Tryz.ntmps46
    go_wp2_with (go_at_call 168; fail)
    refine (hN.out _ (hB0.out _)).mono ?_
    rintro r w1 ⟨rfl, hb1⟩
    have hF1 : Hid (Below w.heap.size w w1) := (hB0.out _).trans (hb1.mono (by simp))
    have hR1 : Hid (Blk w1 w.heap.size #[.int .i64 0, .string ⟨#[]⟩, .int .i64 0, .int .i64 0, .int .i64 0, .int .i64 0, .bool false, .bool false, .int .i64 0, .nilIface, .bool false, .int .i64 0, .bool false, .int .i64 0] 85) := (Blk.new w _ _).below hb1
    clear hb1 q0 q1 q2 q3 q4 g0 g1 g2 g3 g4
    obtain ⟨c0, c1, c2, c3, c4, c5, c6, c7, c8, c9, c10, c11, c12, c13, f0, f1, f2, f3, f4, f5, f6, f7, f8, f9, f10, f11, f12, f13⟩ := hR1.out.all14
    go_wp2
    have z := (hR1.out.setAll14 (.int .i64 a0) (.string a1) (.int .i64 a2) (.int .i64 a3) (.int .i64 a4) (.int .i64 a5) (.bool a6) (.bool a7) (.int .i64 a8) (.nilIface) (.bool a10) (.int .i64 a11) (.bool a12) (.int .i64 a13)).all14
    exact bodyPost_ret (v := .agg #[.int .i64 a0, .string a1, .int .i64 a2, .int .i64 a3, .int .i64 a4, .int .i64 a5, .bool a6, .bool a7, .int .i64 a8, .nilIface, .bool a10, .int .i64 a11, .bool a12, .int .i64 a13]) (by simp [results, Tryz.results46, go_sem, z]) rfl ⟨rfl, below_set14 hF1.out (Nat.le_refl _) (.int .i64 a0) (.string a1) (.int .i64 a2) (.int .i64 a3) (.int .i64 a4) (.int .i64 a5) (.bool a6) (.bool a7) (.int .i64 a8) (.nilIface) (.bool a10) (.int .i64 a11) (.bool a12) (.int .i64 a13)⟩
  · go_enter Tryz.func46, Tryz.ntmps46
    go_wp2_with (go_at_call 168; fail)
    refine (hN.out _ (hB0.out _)).mono ?_
    rintro r w1 ⟨rfl, hb1⟩
    have hF1 : Hid (Below w.heap.size w w1) := (hB0.out _).trans (hb1.mono (by simp))
    have hR1 : Hid (Blk w1 w.heap.size #[.int .i64 0, .string ⟨#[]⟩, .int .i64 0, .int .i64 0, .int .i64 0, .int .i64 0, .bool false, .bool false, .int .i64 0, .nilIface, .bool false, .int .i64 0, .bool false, .int .i64 0] 85) := (Blk.new w _ _).below hb1
    clear hb1 q0 q1 q2 q3 q4 g0 g1 g2 g3 g4
    obtain ⟨c0, c1, c2, c3, c4, c5, c6, c7, c8, c9, c10, c11, c12, c13, f0, f1, f2, f3, f4, f5, f6, f7, f8, f9, f10, f11, f12, f13⟩ := hR1.out.all14
    go_wp2
    have z := (hR1.out.setAll14 (.int .i64 a0) (.string a1) (.int .i64 a2) (.int .i64 a3) (.int .i64 a4) (.int .i64 a5) (.bool a6) (.bool a7) (.int .i64 a8) (.iface ty v) (.bool a10) (.int .i64 a11) (.bool a12) (.int .i64 a13)).all14
    exact bodyPost_ret (v := .agg #[.int .i64 a0, .string a1, .int .i64 a2, .int .i64 a3, .int .i64 a4, .int .i64 a5, .bool a6, .bool a7, .int .i64 a8, .iface ty v, .bool a10, .int .i64 a11, .bool a12, .int .i64 a13]) (by simp [results, Tryz.results46, go_sem, z]) rfl ⟨rfl, below_set14 hF1.out (Nat.le_refl _) (.int .i64 a0) (.string a1) (.int .i64 a2) (.int .i64 a3) (.int .i64 a4) (.int .i64 a5) (.bool a6) (.bool a7) (.int .i64 a8) (.iface ty v) (.bool a10) (.int .i64 a11) (.bool a12) (.int .i64 a13)⟩

theorem coming_c (P e : Nat) (s : L.S) (n : Nat) (ov : Option Addr) (cv : Nat) (bv : Value) (hbl : s.blocks.length ≤ 100000) (w : World) (h : Strm w P e s n ov cv bv) (hn2 : n ≤ 100000) (ho2 : s.owed ≤ 100000) :
    Calls Tryz.prog 46 #[.pointer (some ⟨P, 0, none⟩)] w fun r W' => r = .returned (turnV (L.coming e s)) ∧ Below w.heap.size w W' := by
  rcases Nat.eq_zero_or_pos s.owed with ho | ho
  · cases hst : s.st with
    | opening k => exact comingOpen_c P e s n ov cv bv hbl w h hn2 ho k hst
    | lining k => exact comingLine_c P e s n ov cv bv hbl w h hn2 ho k hst
    | plain => exact comingPlain_c P e s n ov cv bv hbl w h hn2 ho hst
  · exact comingOwed_c P e s n ov cv bv hbl w h ho ho2

end Go.Proofs.YtldpldcfgkceeaaGreatDoor
