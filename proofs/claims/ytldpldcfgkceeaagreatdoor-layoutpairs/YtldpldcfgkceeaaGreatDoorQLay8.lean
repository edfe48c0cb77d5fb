/-
  Layout: what comes next of a stream, by a contract.
-/
import Derived.Test.YtldpldcfgkceeaaGreatDoorQLay7
import Derived.Deep.RegionHeld3
namespace Go.Proofs.YtldpldcfgkceeaaGreatDoor
open Go.RowKit Go.Shelf Go.Maps
set_option linter.unusedVariables false

set_option maxHeartbeats 16000000 in
set_option maxRecDepth 100000 in
theorem comingOwed_c (P e : Nat) (s : L.S) (n : Nat) (ov : Option Addr) (cv : Nat) (bv : Value) (hbl : s.blocks.length ≤ 100000) (w : World) (h : Strm w P e s n ov cv bv) (ho : 0 < s.owed) (ho2 : s.owed ≤ 100000) :
    Calls Tryz.prog 46 #[.pointer (some ⟨P, 0, none⟩)] w fun r W' => r = .returned (turnV (L.coming e s)) ∧ Below w.heap.size w W' := by
  have hdep : Tryz.prog.follows Departure.mixedOrders = true := by kernel_rfl
  obtain ⟨p, hp'⟩ : ∃ p, L.place e s.toks = p := ⟨_, rfl⟩
  have hp : Hid (L.place e s.toks = p) := hp'
  clear hp'
  have hB0 : Hid (∀ o : Obj, Below w.heap.size w (w.alloc o)) := fun o => (Below.refl _ w).alloc (Nat.le_refl _) _
  have hI125 : Hid (∀ W : World, Below w.heap.size w W → Calls Tryz.prog 73 #[.pointer (some ⟨P, 0, none⟩), .string (bs [125])] W fun r W' => r = .returned (.agg #[.int .i64 8, .string (bs [125]), .int .i64 0, .int .i64 (p : Int), .int .i64 0, .int .i64 0, .bool false, .bool true]) ∧ Below W.heap.size W W') := by
    intro W hW
    have := implied_c P e s n ov cv bv [125] W (h.below hW)
    rw [show lxV (L.impl e s.toks [125]) = .agg #[.int .i64 8, .string (bs [125]), .int .i64 0, .int .i64 (p : Int), .int .i64 0, .int .i64 0, .bool false, .bool true] by rw [← hp.out]; exact rfl] at this
    exact this
  obtain ⟨sty, sva, hsv⟩ : ∃ sty sva, stV s.st = .iface sty sva := by cases s.st <;> exact ⟨_, _, rfl⟩
  have hPW : Hid (∀ W : World, Below w.heap.size w W → Blk W P #[.slice ov n cv, .int .i64 (e : Int), .iface sty sva, bv, .int .i64 (s.owed : Int)] 57) := by
    intro W hW
    have := h.blk.below hW
    rw [hsv] at this
    exact this
  have hPl : P < w.heap.size := h.blk.lt
  have HT : Hid (turnV (L.coming e s) = .agg #[.int .i64 8, .string (bs [125]), .int .i64 0, .int .i64 (p : Int), .int .i64 0, .int .i64 0, .bool false, .bool true, .int .i64 0, .iface sty sva, .bool false, .int .i64 0, .bool false, .int .i64 (-1)]) := by
    show _ = _
    unfold L.coming
    rw [if_pos ho, ← hp.out]
    show Value.agg #[_, _, _, _, _, _, _, _, _, stV s.st, _, _, _, _] = _
    rw [hsv]
    rfl
  clear h hbl hp
  have hoi : (0 : Int) < (s.owed : Int) := by omega
  obtain ⟨q0, q1, q2, q3, q4, g0, g1, g2, g3, g4⟩ := (hPW.out w (Below.refl _ _)).all5
  generalize s.owed = ow at *
  go_enter Tryz.func46, Tryz.ntmps46
  go_wp2_with fail
  obtain ⟨W1, hW1⟩ : ∃ W1, W1 = w.alloc (.cells #[.int .i64 0, .string ⟨#[]⟩, .int .i64 0, .int .i64 0, .int .i64 0, .int .i64 0, .bool false, .bool false, .int .i64 0, .nilIface, .bool false, .int .i64 0, .bool false, .int .i64 0] 85) := ⟨_, rfl⟩
  have hB1 : Hid (Below w.heap.size w W1.drew) := by rw [hW1]; exact (hB0.out _).drew
  have hR1 : Hid (Blk W1.drew w.heap.size #[.int .i64 0, .string ⟨#[]⟩, .int .i64 0, .int .i64 0, .int .i64 0, .int .i64 0, .bool false, .bool false, .int .i64 0, .nilIface, .bool false, .int .i64 0, .bool false, .int .i64 0] 85) := by rw [hW1]; exact (Blk.new w _ _).drew
  rw [← hW1]
  clear hW1 q0 q1 q2 q3 q4 g0 g1 g2 g3 g4
  have hmk : Hid (∀ X : World, Below w.heap.size w X → (Hid (Below w.heap.size w X) ∧ X.cell? ⟨P, 2, none⟩ = some (.iface sty sva))) := fun X h => ⟨h, (hPW.out X h).all5.2.2.1⟩
  have hI3 : Hid (∀ W : World, Hid (Below w.heap.size w W) → Calls Tryz.prog 73 #[.pointer (some ⟨P, 0, none⟩), .string (bs [125])] W fun r W' => r = .returned (.agg #[.int .i64 8, .string (bs [125]), .int .i64 0, .int .i64 (p : Int), .int .i64 0, .int .i64 0, .bool false, .bool true]) ∧ Below W.heap.size W W') := fun W h => hI125.out W h.out
  go_region_held3 (fun X : World => Hid (Below w.heap.size w X) ∧ X.cell? ⟨P, 2, none⟩ = some (.iface sty sva))
    (first
      | with_reducible exact hmk.out _ hB1.out
      | with_reducible exact hmk.out _ hS2.out
      | with_reducible exact hmk.out _ (below_set14 hS2.out (Nat.le_refl _) _ _ _ _ _ _ _ _ _ _ _ _ _ _))
    (first
      | (go_at_call 73; refine (hI3.out _ (And.left (by with_reducible assumption))).mono ?_; rintro r w2 ⟨rfl, hb2⟩; have hS2 : Hid (Below w.heap.size w w2) := hB1.out.trans (hb2.mono hB1.out.size); have hR2 : Hid (Blk w2 w.heap.size #[.int .i64 0, .string ⟨#[]⟩, .int .i64 0, .int .i64 0, .int .i64 0, .int .i64 0, .bool false, .bool false, .int .i64 0, .nilIface, .bool false, .int .i64 0, .bool false, .int .i64 0] 85) := hR1.out.below hb2; obtain ⟨c0, c1, c2, c3, c4, c5, c6, c7, c8, c9, c10, c11, c12, c13, f0, f1, f2, f3, f4, f5, f6, f7, f8, f9, f10, f11, f12, f13⟩ := hR2.out.all14; clear hb2))
  all_goals go_wp2
  all_goals (
    have z := (hR2.out.setAll14 (.int .i64 8) (.string (bs [125])) (.int .i64 0) (.int .i64 (p : Int)) (.int .i64 0) (.int .i64 0) (.bool false) (.bool true) (.int .i64 0) (.iface sty sva) (.bool false) (.int .i64 0) (.bool false) (.int .i64 (-1))).all14
    exact bodyPost_ret (v := .agg #[.int .i64 8, .string (bs [125]), .int .i64 0, .int .i64 (p : Int), .int .i64 0, .int .i64 0, .bool false, .bool true, .int .i64 0, .iface sty sva, .bool false, .int .i64 0, .bool false, .int .i64 (-1)]) (by simp [results, Tryz.results46, go_sem, z]) rfl ⟨by rw [HT.out], (below_set14 hS2.out (Nat.le_refl _) (.int .i64 8) (.string (bs [125])) (.int .i64 0) (.int .i64 (p : Int)) (.int .i64 0) (.int .i64 0) (.bool false) (.bool true) (.int .i64 0) (.iface sty sva) (.bool false) (.int .i64 0) (.bool false) (.int .i64 (-1)))⟩)

end Go.Proofs.YtldpldcfgkceeaaGreatDoor
