/-
  Layout: what the states of marks tell, by contracts.
-/
import Derived.Test.YtldpldcfgkceeaaGreatDoorQLayA
import Derived.Deep.RegionWith
namespace Go.Proofs.YtldpldcfgkceeaaGreatDoor
open Go.RowKit Go.Shelf Go.Maps
set_option linter.unusedVariables false

def stOV : Option L.St → Value
  | none => .nilIface
  | some s => stV s
/-- A turn as a value. -/
def turnC (t : L.Turn) : List Value := lxC t.lx ++ [.int .i64 (t.err : Int), stOV t.st, .bool t.begins, .int .i64 (t.column : Int), .bool t.ends, .int .i64 t.owed]
def turnV (t : L.Turn) : Value := .agg (turnC t).toArray

set_option maxHeartbeats 8000000 in
set_option maxRecDepth 100000 in
theorem openNext_c (P e k : Nat) (s : L.S) (n : Nat) (ov : Option Addr) (cv : Nat) (bv : Value) (hbl : s.blocks.length ≤ 100000) (w : World) (h : Strm w P e s n ov cv bv) :
    Calls Tryz.prog 166 #[.int .i64 (k : Int), .pointer (some ⟨P, 0, none⟩)] w fun r W' => r = .returned (turnV (L.openNext e k s.toks s.blocks)) ∧ Below w.heap.size w W' := by
  obtain ⟨p, hp'⟩ : ∃ p, L.place e s.toks = p := ⟨_, rfl⟩
  have hp : Hid (L.place e s.toks = p) := hp'
  clear hp'
  have hB0 : Hid (∀ o : Obj, Below w.heap.size w (w.alloc o)) := fun o => (Below.refl _ w).alloc (Nat.le_refl _) _
  have hC : Hid (∀ W : World, Below w.heap.size w W → Calls Tryz.prog 53 #[.pointer (some ⟨P, 0, none⟩)] W fun r W' => r = .returned (.int .i64 (L.col s.blocks : Nat)) ∧ Below W.heap.size W W') := fun W hW => column_c P e s n ov cv bv hbl W (h.below hW)
  have hI123 : Hid (∀ W : World, Below w.heap.size w W → Calls Tryz.prog 73 #[.pointer (some ⟨P, 0, none⟩), .string (bs [123])] W fun r W' => r = .returned (.agg #[.int .i64 8, .string (bs [123]), .int .i64 0, .int .i64 (p : Int), .int .i64 0, .int .i64 0, .bool false, .bool true]) ∧ Below W.heap.size W W') := by
    intro W hW
    have := implied_c P e s n ov cv bv [123] W (h.below hW)
    rw [show lxV (L.impl e s.toks [123]) = .agg #[.int .i64 8, .string (bs [123]), .int .i64 0, .int .i64 (p : Int), .int .i64 0, .int .i64 0, .bool false, .bool true] by rw [← hp.out]; exact rfl] at this
    exact this
  clear h hbl
  by_cases hk : L.col s.blocks < k
  · have HT : Hid (turnV (L.openNext e k s.toks s.blocks) = .agg #[.int .i64 8, .string (bs [123]), .int .i64 0, .int .i64 (p : Int), .int .i64 0, .int .i64 0, .bool false, .bool true, .int .i64 0, .iface 107 (.agg #[]), .bool true, .int .i64 (k : Int), .bool false, .int .i64 0]) := by
      show _ = _
      unfold L.openNext
      rw [if_pos hk, ← hp.out]
      rfl
    have hki : ((L.col s.blocks : Nat) : Int) < (k : Int) := by omega
    clear hk hp
    generalize L.col s.blocks = c at *
    go_enter Tryz.func166, Tryz.ntmps166
    go_wp2_with (go_at_call 53; fail)
    refine (hC.out _ (hB0.out _)).mono ?_
    rintro r w1 ⟨rfl, hb1⟩
    have hF1 : Hid (Below w.heap.size w w1) := (hB0.out _).trans (hb1.mono (by simp))
    have hR1 : Hid (Blk w1 w.heap.size #[.int .i64 0, .string ⟨#[]⟩, .int .i64 0, .int .i64 0, .int .i64 0, .int .i64 0, .bool false, .bool false, .int .i64 0, .nilIface, .bool false, .int .i64 0, .bool false, .int .i64 0] 85) := (Blk.new w _ _).below hb1
    clear hb1
    go_wp2_with (go_at_call 73; fail)
    refine (hI123.out _ hF1.out).mono ?_
    rintro r w2 ⟨rfl, hb2⟩
    have hF2 : Hid (Below w.heap.size w w2) := hF1.out.trans (hb2.mono hF1.out.size)
    have hR2 : Hid (Blk w2 w.heap.size #[.int .i64 0, .string ⟨#[]⟩, .int .i64 0, .int .i64 0, .int .i64 0, .int .i64 0, .bool false, .bool false, .int .i64 0, .nilIface, .bool false, .int .i64 0, .bool false, .int .i64 0] 85) := hR1.out.below hb2
    clear hb2
    obtain ⟨c0, c1, c2, c3, c4, c5, c6, c7, c8, c9, c10, c11, c12, c13, f0, f1, f2, f3, f4, f5, f6, f7, f8, f9, f10, f11, f12, f13⟩ := hR2.out.all14
    go_wp2
    have z := (hR2.out.setAll14 (.int .i64 8) (.string (bs [123])) (.int .i64 0) (.int .i64 (p : Int)) (.int .i64 0) (.int .i64 0) (.bool false) (.bool true) (.int .i64 0) (.iface 107 (.agg #[])) (.bool true) (.int .i64 (k : Int)) (.bool false) (.int .i64 0)).all14
    exact bodyPost_ret (v := .agg #[.int .i64 8, .string (bs [123]), .int .i64 0, .int .i64 (p : Int), .int .i64 0, .int .i64 0, .bool false, .bool true, .int .i64 0, .iface 107 (.agg #[]), .bool true, .int .i64 (k : Int), .bool false, .int .i64 0]) (by simp [results, Tryz.results166, go_sem, z]) rfl ⟨by rw [HT.out], (below_set14 hF2.out (Nat.le_refl _) (.int .i64 8) (.string (bs [123])) (.int .i64 0) (.int .i64 (p : Int)) (.int .i64 0) (.int .i64 0) (.bool false) (.bool true) (.int .i64 0) (.iface 107 (.agg #[])) (.bool true) (.int .i64 (k : Int)) (.bool false) (.int .i64 0))⟩
  · have HT : Hid (turnV (L.openNext e k s.toks s.blocks) = .agg #[.int .i64 8, .string (bs [123]), .int .i64 0, .int .i64 (p : Int), .int .i64 0, .int .i64 0, .bool false, .bool true, .int .i64 0, .iface 106 (.int .i64 (k : Int)), .bool false, .int .i64 0, .bool false, .int .i64 1]) := by
      show _ = _
      unfold L.openNext
      rw [if_neg hk, ← hp.out]
      rfl
    have hki : (k : Int) ≤ ((L.col s.blocks : Nat) : Int) := by omega
    clear hk hp
    generalize L.col s.blocks = c at *
    go_enter Tryz.func166, Tryz.ntmps166
    go_wp2_with (go_at_call 53; fail)
    refine (hC.out _ (hB0.out _)).mono ?_
    rintro r w1 ⟨rfl, hb1⟩
    have hF1 : Hid (Below w.heap.size w w1) := (hB0.out _).trans (hb1.mono (by simp))
    have hR1 : Hid (Blk w1 w.heap.size #[.int .i64 0, .string ⟨#[]⟩, .int .i64 0, .int .i64 0, .int .i64 0, .int .i64 0, .bool false, .bool false, .int .i64 0, .nilIface, .bool false, .int .i64 0, .bool false, .int .i64 0] 85) := (Blk.new w _ _).below hb1
    clear hb1
    go_wp2_with (go_at_call 73; fail)
    refine (hI123.out _ hF1.out).mono ?_
    rintro r w2 ⟨rfl, hb2⟩
    have hF2 : Hid (Below w.heap.size w w2) := hF1.out.trans (hb2.mono hF1.out.size)
    have hR2 : Hid (Blk w2 w.heap.size #[.int .i64 0, .string ⟨#[]⟩, .int .i64 0, .int .i64 0, .int .i64 0, .int .i64 0, .bool false, .bool false, .int .i64 0, .nilIface, .bool false, .int .i64 0, .bool false, .int .i64 0] 85) := hR1.out.below hb2
    clear hb2
    obtain ⟨c0, c1, c2, c3, c4, c5, c6, c7, c8, c9, c10, c11, c12, c13, f0, f1, f2, f3, f4, f5, f6, f7, f8, f9, f10, f11, f12, f13⟩ := hR2.out.all14
    go_wp2
    have z := (hR2.out.setAll14 (.int .i64 8) (.string (bs [123])) (.int .i64 0) (.int .i64 (p : Int)) (.int .i64 0) (.int .i64 0) (.bool false) (.bool true) (.int .i64 0) (.iface 106 (.int .i64 (k : Int))) (.bool false) (.int .i64 0) (.bool false) (.int .i64 1)).all14
    exact bodyPost_ret (v := .agg #[.int .i64 8, .string (bs [123]), .int .i64 0, .int .i64 (p : Int), .int .i64 0, .int .i64 0, .bool false, .bool true, .int .i64 0, .iface 106 (.int .i64 (k : Int)), .bool false, .int .i64 0, .bool false, .int .i64 1]) (by simp [results, Tryz.results166, go_sem, z]) rfl ⟨by rw [HT.out], (below_set14 hF2.out (Nat.le_refl _) (.int .i64 8) (.string (bs [123])) (.int .i64 0) (.int .i64 (p : Int)) (.int .i64 0) (.int .i64 0) (.bool false) (.bool true) (.int .i64 0) (.iface 106 (.int .i64 (k : Int))) (.bool false) (.int .i64 0) (.bool false) (.int .i64 1))⟩

end Go.Proofs.YtldpldcfgkceeaaGreatDoor
