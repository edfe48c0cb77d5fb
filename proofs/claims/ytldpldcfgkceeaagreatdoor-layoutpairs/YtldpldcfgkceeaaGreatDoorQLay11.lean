/-
  Layout: what becomes of a stream with a turn, by contracts, case by case.
-/
import Derived.Test.YtldpldcfgkceeaaGreatDoorQLay10
import Derived.Test.YtldpldcfgkceeaaGreatDoorQLay6
namespace Go.Proofs.YtldpldcfgkceeaaGreatDoor
open Go.RowKit Go.Shelf Go.Maps
set_option linter.unusedVariables false

theorem Nxt.of {w W : World} {a b : Option Nat} (h : Nxt W a b) (hs : w.heap.size ≤ W.heap.size) : Nxt w a b := by
  rcases h with h | ⟨k, h, hk⟩
  · exact .inl h
  · exact .inr ⟨k, h, by omega⟩
theorem Blk.newSet (w : World) (P i : Nat) (u : Value) (vs : Array Value) (T : TypeId) : Blk ((w.setCell ⟨P, i, none⟩ u).alloc (.cells vs T)) w.heap.size vs T := by
  have := Blk.new (w.setCell ⟨P, i, none⟩ u) vs T
  have hs : (w.setCell ⟨P, i, none⟩ u).heap.size = w.heap.size := by simp [World.setCell]
  rw [hs] at this
  exact this
theorem Chg.alloc {w W : World} {P : Nat} {rb : Option Nat} (h : Chg w W P rb) (o : Obj) : Chg w (W.alloc o) P rb := h.trans (Chg.of_below ((Below.refl _ W).alloc (Nat.le_refl _) o) P rb) (Nxt.refl _ _)
set_option maxHeartbeats 16000000 in
set_option maxRecDepth 100000 in
theorem followPushI_c (P e : Nat) (stv bv : Value) (ow : Nat) (ow' : Int) (ov : Option Addr) (n cv : Nat) (k : Nat) (hk : k ≤ 100000) (xs : List Value) (a0 a2 a3 a4 a5 a8 d : Int) (a1 : ByteArray) (a6 : Bool) (col : Nat) (sty : TypeId) (sva : Value) (h1 : (ow : Int) + d = ow') (h2 : 0 ≤ ow') (h3 : ow' ≤ 200000) (w : World) (h : Blk w P #[.slice ov n cv, .int .i64 (e : Int), stv, bv, .int .i64 (ow : Int)] 57) (hr : w.ownsRow (P + 1) 3 1 bv k xs) :
    Calls Tryz.prog 51 #[.pointer (some ⟨P, 0, none⟩), .agg #[.int .i64 a0, .string a1, .int .i64 a2, .int .i64 a3, .int .i64 a4, .int .i64 a5, .bool a6, .bool true, .int .i64 a8, .iface sty sva, .bool true, .int .i64 (col : Int), .bool false, .int .i64 d]] w fun r W' => r = .returned (.tuple #[]) ∧ ∃ bv', Blk W' P #[.slice ov n cv, .int .i64 (e : Int), .iface sty sva, bv', .int .i64 ow'] 57 ∧ W'.ownsRow (P + 1) 3 1 bv' (k + 1) (xs ++ [.int .i64 (col : Int)]) ∧ Chg w W' P bv.ownBlock ∧ Nxt w bv.ownBlock bv'.ownBlock := by
  obtain ⟨c0, c1, c2, c3, c4, f0, f1, f2, f3, f4⟩ := h.all5
  have HB : Hid (Blk w P #[.slice ov n cv, .int .i64 (e : Int), stv, bv, .int .i64 (ow : Int)] 57) := h
  have HR : Hid (w.ownsRow (P + 1) 3 1 bv k xs) := hr
  have hPl : P < w.heap.size := h.lt
  have hdep : Tryz.prog.follows Departure.mixedOrders = true := by kernel_rfl
  have hPT : P ≠ w.heap.size := by omega
  have hTP : w.heap.size ≠ P := by omega
  have hrb : Hid (∀ k, bv.ownBlock = some k → P + 1 ≤ k ∧ k < w.heap.size) := hr.lt
  clear h hr
  go_enter Tryz.func51, Tryz.ntmps51
  go_wp2_with (go_at_call 74; fail)
  have hW : Hid (Blk (w.alloc (.cells #[.int .i64 a0, .string a1, .int .i64 a2, .int .i64 a3, .int .i64 a4, .int .i64 a5, .bool a6, .bool true, .int .i64 a8, .iface sty sva, .bool true, .int .i64 (col : Int), .bool false, .int .i64 d] 85)) w.heap.size #[.int .i64 a0, .string a1, .int .i64 a2, .int .i64 a3, .int .i64 a4, .int .i64 a5, .bool a6, .bool true, .int .i64 a8, .iface sty sva, .bool true, .int .i64 (col : Int), .bool false, .int .i64 d] 85) := Blk.new w _ _
  have hCh : Hid (Chg w (w.alloc (.cells #[.int .i64 a0, .string a1, .int .i64 a2, .int .i64 a3, .int .i64 a4, .int .i64 a5, .bool a6, .bool true, .int .i64 a8, .iface sty sva, .bool true, .int .i64 (col : Int), .bool false, .int .i64 d] 85)) P bv.ownBlock) := (Chg.of_below ((Below.refl _ w).alloc (Nat.le_refl _) _) _ _)
  refine (push_c P _ _ _ _ _ col k xs hk _ (HB.out.alloc _) (HR.out.alloc _)).mono ?_
  rintro r w2 ⟨rfl, bv', hb2, ho2, hc2, hn2⟩
  have hB2 : Hid (Blk w2 P _ 57) := hb2
  have hO2 : Hid (w2.ownsRow (P + 1) 3 1 bv' (k + 1) (xs ++ [.int .i64 (col : Int)])) := ho2
  have hC2 : Hid (Chg w w2 P bv.ownBlock) := hCh.out.trans hc2 (Nxt.refl _ _)
  have hT2 : Hid (Blk w2 w.heap.size #[.int .i64 a0, .string a1, .int .i64 a2, .int .i64 a3, .int .i64 a4, .int .i64 a5, .bool a6, .bool true, .int .i64 a8, .iface sty sva, .bool true, .int .i64 (col : Int), .bool false, .int .i64 d] 85) := hW.out.chg hc2 hTP (fun e => by have := (hrb.out _ e.symm).2; omega)
  have hN2 : Hid (Nxt w bv.ownBlock bv'.ownBlock) := Nxt.of hn2 (by simp)
  clear hb2 ho2 hc2 hn2 c0 c1 c2 c3 c4 f0 f1 f2 f3 f4 hW hCh
  obtain ⟨q0, q1, q2, q3, q4, g0, g1, g2, g3, g4⟩ := hB2.out.all5
  obtain ⟨c0, c1, c2, c3, c4, c5, c6, c7, c8, c9, c10, c11, c12, c13, f0, f1, f2, f3, f4, f5, f6, f7, f8, f9, f10, f11, f12, f13⟩ := hT2.out.all14
  go_wp2
  go_region
  all_goals go_wp2
  go_end0
  exact ⟨rfl, bv', ((hB2.out.set1 4 (.int .i64 ow') _ rfl).set1 2 (.iface sty sva) #[.slice ov n cv, .int .i64 (e : Int), .iface sty sva, bv', .int .i64 ow'] rfl).drew, (ownsRow_setCell_below (ownsRow_setCell_below hO2.out (by show P < P + 1; omega) _) (by show P < P + 1; omega) _).drew, ((hC2.out.set 4 _).set 2 _).drew, hN2.out⟩

set_option maxHeartbeats 16000000 in
set_option maxRecDepth 100000 in
theorem followPopI_c (P e : Nat) (stv bv : Value) (ow : Nat) (ow' : Int) (ov : Option Addr) (n cv : Nat) (k : Nat) (hk : k ≤ 100000) (xs : List Value) (x : Value) (a0 a2 a3 a4 a5 a8 d : Int) (a1 : ByteArray) (a6 : Bool) (col : Nat) (sty : TypeId) (sva : Value) (h1 : (ow : Int) + d = ow') (h2 : 0 ≤ ow') (h3 : ow' ≤ 200000) (w : World) (h : Blk w P #[.slice ov n cv, .int .i64 (e : Int), stv, bv, .int .i64 (ow : Int)] 57) (hr : w.ownsRow (P + 1) 3 1 bv (k + 1) (xs ++ [x])) :
    Calls Tryz.prog 51 #[.pointer (some ⟨P, 0, none⟩), .agg #[.int .i64 a0, .string a1, .int .i64 a2, .int .i64 a3, .int .i64 a4, .int .i64 a5, .bool a6, .bool true, .int .i64 a8, .iface sty sva, .bool false, .int .i64 (col : Int), .bool true, .int .i64 d]] w fun r W' => r = .returned (.tuple #[]) ∧ ∃ bv', Blk W' P #[.slice ov n cv, .int .i64 (e : Int), .iface sty sva, bv', .int .i64 ow'] 57 ∧ W'.ownsRow (P + 1) 3 1 bv' k xs ∧ Chg w W' P bv.ownBlock ∧ Nxt w bv.ownBlock bv'.ownBlock := by
  obtain ⟨c0, c1, c2, c3, c4, f0, f1, f2, f3, f4⟩ := h.all5
  have HB : Hid (Blk w P #[.slice ov n cv, .int .i64 (e : Int), stv, bv, .int .i64 (ow : Int)] 57) := h
  have HR : Hid (w.ownsRow (P + 1) 3 1 bv (k + 1) (xs ++ [x])) := hr
  have hPl : P < w.heap.size := h.lt
  have hdep : Tryz.prog.follows Departure.mixedOrders = true := by kernel_rfl
  have hPT : P ≠ w.heap.size := by omega
  have hTP : w.heap.size ≠ P := by omega
  have hrb : Hid (∀ k, bv.ownBlock = some k → P + 1 ≤ k ∧ k < w.heap.size) := hr.lt
  clear h hr
  go_enter Tryz.func51, Tryz.ntmps51
  go_wp2_with (go_at_call 54; fail)
  have hW : Hid (Blk (w.alloc (.cells #[.int .i64 a0, .string a1, .int .i64 a2, .int .i64 a3, .int .i64 a4, .int .i64 a5, .bool a6, .bool true, .int .i64 a8, .iface sty sva, .bool false, .int .i64 (col : Int), .bool true, .int .i64 d] 85)) w.heap.size #[.int .i64 a0, .string a1, .int .i64 a2, .int .i64 a3, .int .i64 a4, .int .i64 a5, .bool a6, .bool true, .int .i64 a8, .iface sty sva, .bool false, .int .i64 (col : Int), .bool true, .int .i64 d] 85) := Blk.new w _ _
  have hCh : Hid (Chg w (w.alloc (.cells #[.int .i64 a0, .string a1, .int .i64 a2, .int .i64 a3, .int .i64 a4, .int .i64 a5, .bool a6, .bool true, .int .i64 a8, .iface sty sva, .bool false, .int .i64 (col : Int), .bool true, .int .i64 d] 85)) P bv.ownBlock) := (Chg.of_below ((Below.refl _ w).alloc (Nat.le_refl _) _) _ _)
  refine (pop_c P _ _ _ _ _ k xs x hk _ (HB.out.alloc _) (HR.out.alloc _)).mono ?_
  rintro r w2 ⟨rfl, bv', hb2, ho2, hc2, hn2⟩
  have hB2 : Hid (Blk w2 P _ 57) := hb2
  have hO2 : Hid (w2.ownsRow (P + 1) 3 1 bv' k xs) := ho2
  have hC2 : Hid (Chg w w2 P bv.ownBlock) := hCh.out.trans hc2 (Nxt.refl _ _)
  have hT2 : Hid (Blk w2 w.heap.size #[.int .i64 a0, .string a1, .int .i64 a2, .int .i64 a3, .int .i64 a4, .int .i64 a5, .bool a6, .bool true, .int .i64 a8, .iface sty sva, .bool false, .int .i64 (col : Int), .bool true, .int .i64 d] 85) := hW.out.chg hc2 hTP (fun e => by have := (hrb.out _ e.symm).2; omega)
  have hN2 : Hid (Nxt w bv.ownBlock bv'.ownBlock) := (.inl hn2)
  clear hb2 ho2 hc2 hn2 c0 c1 c2 c3 c4 f0 f1 f2 f3 f4 hW hCh
  obtain ⟨q0, q1, q2, q3, q4, g0, g1, g2, g3, g4⟩ := hB2.out.all5
  obtain ⟨c0, c1, c2, c3, c4, c5, c6, c7, c8, c9, c10, c11, c12, c13, f0, f1, f2, f3, f4, f5, f6, f7, f8, f9, f10, f11, f12, f13⟩ := hT2.out.all14
  go_wp2
  go_region
  all_goals go_wp2
  go_end0
  exact ⟨rfl, bv', ((hB2.out.set1 4 (.int .i64 ow') _ rfl).set1 2 (.iface sty sva) #[.slice ov n cv, .int .i64 (e : Int), .iface sty sva, bv', .int .i64 ow'] rfl).drew, (ownsRow_setCell_below (ownsRow_setCell_below hO2.out (by show P < P + 1; omega) _) (by show P < P + 1; omega) _).drew, ((hC2.out.set 4 _).set 2 _).drew, hN2.out⟩

set_option maxHeartbeats 16000000 in
set_option maxRecDepth 100000 in
theorem followStayI_c (P e : Nat) (stv bv : Value) (ow : Nat) (ow' : Int) (ov : Option Addr) (n cv : Nat) (k : Nat) (xs : List Value) (a0 a2 a3 a4 a5 a8 d : Int) (a1 : ByteArray) (a6 : Bool) (col : Nat) (sty : TypeId) (sva : Value) (h1 : (ow : Int) + d = ow') (h2 : 0 ≤ ow') (h3 : ow' ≤ 200000) (w : World) (h : Blk w P #[.slice ov n cv, .int .i64 (e : Int), stv, bv, .int .i64 (ow : Int)] 57) (hr : w.ownsRow (P + 1) 3 1 bv k xs) :
    Calls Tryz.prog 51 #[.pointer (some ⟨P, 0, none⟩), .agg #[.int .i64 a0, .string a1, .int .i64 a2, .int .i64 a3, .int .i64 a4, .int .i64 a5, .bool a6, .bool true, .int .i64 a8, .iface sty sva, .bool false, .int .i64 (col : Int), .bool false, .int .i64 d]] w fun r W' => r = .returned (.tuple #[]) ∧ ∃ bv', Blk W' P #[.slice ov n cv, .int .i64 (e : Int), .iface sty sva, bv', .int .i64 ow'] 57 ∧ W'.ownsRow (P + 1) 3 1 bv' k xs ∧ Chg w W' P bv.ownBlock ∧ Nxt w bv.ownBlock bv'.ownBlock := by
  obtain ⟨c0, c1, c2, c3, c4, f0, f1, f2, f3, f4⟩ := h.all5
  have HB : Hid (Blk w P #[.slice ov n cv, .int .i64 (e : Int), stv, bv, .int .i64 (ow : Int)] 57) := h
  have HR : Hid (w.ownsRow (P + 1) 3 1 bv k xs) := hr
  have hPl : P < w.heap.size := h.lt
  have hdep : Tryz.prog.follows Departure.mixedOrders = true := by kernel_rfl
  have hPT : P ≠ w.heap.size := by omega
  have hTP : w.heap.size ≠ P := by omega
  have hrb : Hid (∀ k, bv.ownBlock = some k → P + 1 ≤ k ∧ k < w.heap.size) := hr.lt
  clear h hr
  go_enter Tryz.func51, Tryz.ntmps51
  go_wp2
  go_region
  all_goals go_wp2
  go_end0
  exact ⟨rfl, bv, (((HB.out.set1 4 (.int .i64 ow') _ rfl).set1 2 (.iface sty sva) #[.slice ov n cv, .int .i64 (e : Int), .iface sty sva, bv, .int .i64 ow'] rfl).alloc _).drew, ((ownsRow_setCell_below (ownsRow_setCell_below HR.out (by show P < P + 1; omega) _) (by show P < P + 1; omega) _).alloc _).drew, ((((Chg.refl w P bv.ownBlock).set 4 _).set 2 _).alloc _).drew, Nxt.refl _ _⟩

set_option maxHeartbeats 16000000 in
set_option maxRecDepth 100000 in
theorem followPushT_c (P e : Nat) (stv bv : Value) (ow : Nat) (ow' : Int) (g f n cv : Nat) (o' : Option Addr) (hsl : ∀ w : World, (Instr.slice 22 (.slice (some ⟨g, f, none⟩) (n + 1) cv) (some (.int .i64 1)) none none).run Tryz.prog w = .ok (.slice o' n (cv - 1)) w) (hcv : n + 1 ≤ cv) (k : Nat) (hk : k ≤ 100000) (xs : List Value) (a0 a2 a3 a4 a5 a8 d : Int) (a1 : ByteArray) (a6 : Bool) (col : Nat) (sty : TypeId) (sva : Value) (h1 : (ow : Int) + d = ow') (h2 : 0 ≤ ow') (h3 : ow' ≤ 200000) (w : World) (h : Blk w P #[.slice (some ⟨g, f, none⟩) (n + 1) cv, .int .i64 (e : Int), stv, bv, .int .i64 (ow : Int)] 57) (hr : w.ownsRow (P + 1) 3 1 bv k xs) :
    Calls Tryz.prog 51 #[.pointer (some ⟨P, 0, none⟩), .agg #[.int .i64 a0, .string a1, .int .i64 a2, .int .i64 a3, .int .i64 a4, .int .i64 a5, .bool a6, .bool false, .int .i64 a8, .iface sty sva, .bool true, .int .i64 (col : Int), .bool false, .int .i64 d]] w fun r W' => r = .returned (.tuple #[]) ∧ ∃ bv', Blk W' P #[.slice o' n (cv - 1), .int .i64 (e : Int), .iface sty sva, bv', .int .i64 ow'] 57 ∧ W'.ownsRow (P + 1) 3 1 bv' (k + 1) (xs ++ [.int .i64 (col : Int)]) ∧ Chg w W' P bv.ownBlock ∧ Nxt w bv.ownBlock bv'.ownBlock := by
  obtain ⟨c0, c1, c2, c3, c4, f0, f1, f2, f3, f4⟩ := h.all5
  have HB : Hid (Blk w P #[.slice (some ⟨g, f, none⟩) (n + 1) cv, .int .i64 (e : Int), stv, bv, .int .i64 (ow : Int)] 57) := h
  have HR : Hid (w.ownsRow (P + 1) 3 1 bv k xs) := hr
  have hPl : P < w.heap.size := h.lt
  have hdep : Tryz.prog.follows Departure.mixedOrders = true := by kernel_rfl
  have hPT : P ≠ w.heap.size := by omega
  have hTP : w.heap.size ≠ P := by omega
  have hrb : Hid (∀ k, bv.ownBlock = some k → P + 1 ≤ k ∧ k < w.heap.size) := hr.lt
  clear h hr
  go_enter Tryz.func51, Tryz.ntmps51
  go_wp2_with (go_at_call 74; fail)
  have hW : Hid (Blk ((w.setCell ⟨P, 0, none⟩ (.slice o' n (cv - 1))).alloc (.cells #[.int .i64 a0, .string a1, .int .i64 a2, .int .i64 a3, .int .i64 a4, .int .i64 a5, .bool a6, .bool false, .int .i64 a8, .iface sty sva, .bool true, .int .i64 (col : Int), .bool false, .int .i64 d] 85)) w.heap.size #[.int .i64 a0, .string a1, .int .i64 a2, .int .i64 a3, .int .i64 a4, .int .i64 a5, .bool a6, .bool false, .int .i64 a8, .iface sty sva, .bool true, .int .i64 (col : Int), .bool false, .int .i64 d] 85) := Blk.newSet w P 0 (.slice o' n (cv - 1)) #[.int .i64 a0, .string a1, .int .i64 a2, .int .i64 a3, .int .i64 a4, .int .i64 a5, .bool a6, .bool false, .int .i64 a8, .iface sty sva, .bool true, .int .i64 (col : Int), .bool false, .int .i64 d] 85
  have hCh : Hid (Chg w ((w.setCell ⟨P, 0, none⟩ (.slice o' n (cv - 1))).alloc (.cells #[.int .i64 a0, .string a1, .int .i64 a2, .int .i64 a3, .int .i64 a4, .int .i64 a5, .bool a6, .bool false, .int .i64 a8, .iface sty sva, .bool true, .int .i64 (col : Int), .bool false, .int .i64 d] 85)) P bv.ownBlock) := ((Chg.refl w P _).set 0 (.slice o' n (cv - 1)) |>.trans (Chg.of_below ((Below.refl _ _).alloc (Nat.le_refl _) _) _ _) (Nxt.refl _ _))
  refine (push_c P _ _ _ _ _ col k xs hk _ ((HB.out.set1 0 (.slice o' n (cv - 1)) #[.slice o' n (cv - 1), .int .i64 (e : Int), stv, bv, .int .i64 (ow : Int)] rfl).alloc _) ((ownsRow_setCell_below HR.out (by show P < P + 1; omega) _).alloc _)).mono ?_
  rintro r w2 ⟨rfl, bv', hb2, ho2, hc2, hn2⟩
  have hB2 : Hid (Blk w2 P _ 57) := hb2
  have hO2 : Hid (w2.ownsRow (P + 1) 3 1 bv' (k + 1) (xs ++ [.int .i64 (col : Int)])) := ho2
  have hC2 : Hid (Chg w w2 P bv.ownBlock) := hCh.out.trans hc2 (Nxt.refl _ _)
  have hT2 : Hid (Blk w2 w.heap.size #[.int .i64 a0, .string a1, .int .i64 a2, .int .i64 a3, .int .i64 a4, .int .i64 a5, .bool a6, .bool false, .int .i64 a8, .iface sty sva, .bool true, .int .i64 (col : Int), .bool false, .int .i64 d] 85) := hW.out.chg hc2 hTP (fun e => by have := (hrb.out _ e.symm).2; omega)
  have hN2 : Hid (Nxt w bv.ownBlock bv'.ownBlock) := Nxt.of hn2 (by simp)
  clear hb2 ho2 hc2 hn2 c0 c1 c2 c3 c4 f0 f1 f2 f3 f4 hW hCh
  obtain ⟨q0, q1, q2, q3, q4, g0, g1, g2, g3, g4⟩ := hB2.out.all5
  obtain ⟨c0, c1, c2, c3, c4, c5, c6, c7, c8, c9, c10, c11, c12, c13, f0, f1, f2, f3, f4, f5, f6, f7, f8, f9, f10, f11, f12, f13⟩ := hT2.out.all14
  go_wp2
  go_region
  all_goals go_wp2
  go_end0
  exact ⟨rfl, bv', ((hB2.out.set1 4 (.int .i64 ow') _ rfl).set1 2 (.iface sty sva) #[.slice o' n (cv - 1), .int .i64 (e : Int), .iface sty sva, bv', .int .i64 ow'] rfl).drew, (ownsRow_setCell_below (ownsRow_setCell_below hO2.out (by show P < P + 1; omega) _) (by show P < P + 1; omega) _).drew, ((hC2.out.set 4 _).set 2 _).drew, hN2.out⟩

set_option maxHeartbeats 16000000 in
set_option maxRecDepth 100000 in
theorem followPopT_c (P e : Nat) (stv bv : Value) (ow : Nat) (ow' : Int) (g f n cv : Nat) (o' : Option Addr) (hsl : ∀ w : World, (Instr.slice 22 (.slice (some ⟨g, f, none⟩) (n + 1) cv) (some (.int .i64 1)) none none).run Tryz.prog w = .ok (.slice o' n (cv - 1)) w) (hcv : n + 1 ≤ cv) (k : Nat) (hk : k ≤ 100000) (xs : List Value) (x : Value) (a0 a2 a3 a4 a5 a8 d : Int) (a1 : ByteArray) (a6 : Bool) (col : Nat) (sty : TypeId) (sva : Value) (h1 : (ow : Int) + d = ow') (h2 : 0 ≤ ow') (h3 : ow' ≤ 200000) (w : World) (h : Blk w P #[.slice (some ⟨g, f, none⟩) (n + 1) cv, .int .i64 (e : Int), stv, bv, .int .i64 (ow : Int)] 57) (hr : w.ownsRow (P + 1) 3 1 bv (k + 1) (xs ++ [x])) :
    Calls Tryz.prog 51 #[.pointer (some ⟨P, 0, none⟩), .agg #[.int .i64 a0, .string a1, .int .i64 a2, .int .i64 a3, .int .i64 a4, .int .i64 a5, .bool a6, .bool false, .int .i64 a8, .iface sty sva, .bool false, .int .i64 (col : Int), .bool true, .int .i64 d]] w fun r W' => r = .returned (.tuple #[]) ∧ ∃ bv', Blk W' P #[.slice o' n (cv - 1), .int .i64 (e : Int), .iface sty sva, bv', .int .i64 ow'] 57 ∧ W'.ownsRow (P + 1) 3 1 bv' k xs ∧ Chg w W' P bv.ownBlock ∧ Nxt w bv.ownBlock bv'.ownBlock := by
  obtain ⟨c0, c1, c2, c3, c4, f0, f1, f2, f3, f4⟩ := h.all5
  have HB : Hid (Blk w P #[.slice (some ⟨g, f, none⟩) (n + 1) cv, .int .i64 (e : Int), stv, bv, .int .i64 (ow : Int)] 57) := h
  have HR : Hid (w.ownsRow (P + 1) 3 1 bv (k + 1) (xs ++ [x])) := hr
  have hPl : P < w.heap.size := h.lt
  have hdep : Tryz.prog.follows Departure.mixedOrders = true := by kernel_rfl
  have hPT : P ≠ w.heap.size := by omega
  have hTP : w.heap.size ≠ P := by omega
  have hrb : Hid (∀ k, bv.ownBlock = some k → P + 1 ≤ k ∧ k < w.heap.size) := hr.lt
  clear h hr
  go_enter Tryz.func51, Tryz.ntmps51
  go_wp2_with (go_at_call 54; fail)
  have hW : Hid (Blk ((w.setCell ⟨P, 0, none⟩ (.slice o' n (cv - 1))).alloc (.cells #[.int .i64 a0, .string a1, .int .i64 a2, .int .i64 a3, .int .i64 a4, .int .i64 a5, .bool a6, .bool false, .int .i64 a8, .iface sty sva, .bool false, .int .i64 (col : Int), .bool true, .int .i64 d] 85)) w.heap.size #[.int .i64 a0, .string a1, .int .i64 a2, .int .i64 a3, .int .i64 a4, .int .i64 a5, .bool a6, .bool false, .int .i64 a8, .iface sty sva, .bool false, .int .i64 (col : Int), .bool true, .int .i64 d] 85) := Blk.newSet w P 0 (.slice o' n (cv - 1)) #[.int .i64 a0, .string a1, .int .i64 a2, .int .i64 a3, .int .i64 a4, .int .i64 a5, .bool a6, .bool false, .int .i64 a8, .iface sty sva, .bool false, .int .i64 (col : Int), .bool true, .int .i64 d] 85
  have hCh : Hid (Chg w ((w.setCell ⟨P, 0, none⟩ (.slice o' n (cv - 1))).alloc (.cells #[.int .i64 a0, .string a1, .int .i64 a2, .int .i64 a3, .int .i64 a4, .int .i64 a5, .bool a6, .bool false, .int .i64 a8, .iface sty sva, .bool false, .int .i64 (col : Int), .bool true, .int .i64 d] 85)) P bv.ownBlock) := ((Chg.refl w P _).set 0 (.slice o' n (cv - 1)) |>.trans (Chg.of_below ((Below.refl _ _).alloc (Nat.le_refl _) _) _ _) (Nxt.refl _ _))
  refine (pop_c P _ _ _ _ _ k xs x hk _ ((HB.out.set1 0 (.slice o' n (cv - 1)) #[.slice o' n (cv - 1), .int .i64 (e : Int), stv, bv, .int .i64 (ow : Int)] rfl).alloc _) ((ownsRow_setCell_below HR.out (by show P < P + 1; omega) _).alloc _)).mono ?_
  rintro r w2 ⟨rfl, bv', hb2, ho2, hc2, hn2⟩
  have hB2 : Hid (Blk w2 P _ 57) := hb2
  have hO2 : Hid (w2.ownsRow (P + 1) 3 1 bv' k xs) := ho2
  have hC2 : Hid (Chg w w2 P bv.ownBlock) := hCh.out.trans hc2 (Nxt.refl _ _)
  have hT2 : Hid (Blk w2 w.heap.size #[.int .i64 a0, .string a1, .int .i64 a2, .int .i64 a3, .int .i64 a4, .int .i64 a5, .bool a6, .bool false, .int .i64 a8, .iface sty sva, .bool false, .int .i64 (col : Int), .bool true, .int .i64 d] 85) := hW.out.chg hc2 hTP (fun e => by have := (hrb.out _ e.symm).2; omega)
  have hN2 : Hid (Nxt w bv.ownBlock bv'.ownBlock) := (.inl hn2)
  clear hb2 ho2 hc2 hn2 c0 c1 c2 c3 c4 f0 f1 f2 f3 f4 hW hCh
  obtain ⟨q0, q1, q2, q3, q4, g0, g1, g2, g3, g4⟩ := hB2.out.all5
  obtain ⟨c0, c1, c2, c3, c4, c5, c6, c7, c8, c9, c10, c11, c12, c13, f0, f1, f2, f3, f4, f5, f6, f7, f8, f9, f10, f11, f12, f13⟩ := hT2.out.all14
  go_wp2
  go_region
  all_goals go_wp2
  go_end0
  exact ⟨rfl, bv', ((hB2.out.set1 4 (.int .i64 ow') _ rfl).set1 2 (.iface sty sva) #[.slice o' n (cv - 1), .int .i64 (e : Int), .iface sty sva, bv', .int .i64 ow'] rfl).drew, (ownsRow_setCell_below (ownsRow_setCell_below hO2.out (by show P < P + 1; omega) _) (by show P < P + 1; omega) _).drew, ((hC2.out.set 4 _).set 2 _).drew, hN2.out⟩

set_option maxHeartbeats 16000000 in
set_option maxRecDepth 100000 in
theorem followStayT_c (P e : Nat) (stv bv : Value) (ow : Nat) (ow' : Int) (g f n cv : Nat) (o' : Option Addr) (hsl : ∀ w : World, (Instr.slice 22 (.slice (some ⟨g, f, none⟩) (n + 1) cv) (some (.int .i64 1)) none none).run Tryz.prog w = .ok (.slice o' n (cv - 1)) w) (hcv : n + 1 ≤ cv) (k : Nat) (xs : List Value) (a0 a2 a3 a4 a5 a8 d : Int) (a1 : ByteArray) (a6 : Bool) (col : Nat) (sty : TypeId) (sva : Value) (h1 : (ow : Int) + d = ow') (h2 : 0 ≤ ow') (h3 : ow' ≤ 200000) (w : World) (h : Blk w P #[.slice (some ⟨g, f, none⟩) (n + 1) cv, .int .i64 (e : Int), stv, bv, .int .i64 (ow : Int)] 57) (hr : w.ownsRow (P + 1) 3 1 bv k xs) :
    Calls Tryz.prog 51 #[.pointer (some ⟨P, 0, none⟩), .agg #[.int .i64 a0, .string a1, .int .i64 a2, .int .i64 a3, .int .i64 a4, .int .i64 a5, .bool a6, .bool false, .int .i64 a8, .iface sty sva, .bool false, .int .i64 (col : Int), .bool false, .int .i64 d]] w fun r W' => r = .returned (.tuple #[]) ∧ ∃ bv', Blk W' P #[.slice o' n (cv - 1), .int .i64 (e : Int), .iface sty sva, bv', .int .i64 ow'] 57 ∧ W'.ownsRow (P + 1) 3 1 bv' k xs ∧ Chg w W' P bv.ownBlock ∧ Nxt w bv.ownBlock bv'.ownBlock := by
  obtain ⟨c0, c1, c2, c3, c4, f0, f1, f2, f3, f4⟩ := h.all5
  have HB : Hid (Blk w P #[.slice (some ⟨g, f, none⟩) (n + 1) cv, .int .i64 (e : Int), stv, bv, .int .i64 (ow : Int)] 57) := h
  have HR : Hid (w.ownsRow (P + 1) 3 1 bv k xs) := hr
  have hPl : P < w.heap.size := h.lt
  have hdep : Tryz.prog.follows Departure.mixedOrders = true := by kernel_rfl
  have hPT : P ≠ w.heap.size := by omega
  have hTP : w.heap.size ≠ P := by omega
  have hrb : Hid (∀ k, bv.ownBlock = some k → P + 1 ≤ k ∧ k < w.heap.size) := hr.lt
  clear h hr
  go_enter Tryz.func51, Tryz.ntmps51
  go_wp2
  go_region
  all_goals go_wp2
  go_end0
  exact ⟨rfl, bv, ((((HB.out.set1 0 (.slice o' n (cv - 1)) #[.slice o' n (cv - 1), .int .i64 (e : Int), stv, bv, .int .i64 (ow : Int)] rfl).set1 4 (.int .i64 ow') _ rfl).set1 2 (.iface sty sva) #[.slice o' n (cv - 1), .int .i64 (e : Int), .iface sty sva, bv, .int .i64 ow'] rfl).alloc _).drew, ((ownsRow_setCell_below (ownsRow_setCell_below (ownsRow_setCell_below HR.out (by show P < P + 1; omega) _) (by show P < P + 1; omega) _) (by show P < P + 1; omega) _).alloc _).drew, (((((Chg.refl w P bv.ownBlock).set 0 _).set 4 _).set 2 _).alloc _).drew, Nxt.refl _ _⟩

end Go.Proofs.YtldpldcfgkceeaaGreatDoor
