/-
  Layout: what comes where a token is left and no mark stands ahead of it: one case.
-/
import Derived.Test.YtldpldcfgkceeaaGreatDoorQLay6
namespace Go.Proofs.YtldpldcfgkceeaaGreatDoor
open Go.RowKit Go.Shelf Go.Maps
set_option linter.unusedVariables false

set_option maxHeartbeats 32000000 in
set_option maxRecDepth 100000 in
theorem plainTokA_c (P e : Nat) (s : L.S) (n : Nat) (ov : Option Addr) (cv : Nat) (bv : Value) (hbl : s.blocks.length ≤ 100000) (w : World) (h : Strm w P e s n ov cv bv) (k : Nat) (tx : List UInt8) (num pos line tc : Nat) (first : Bool) (l : List M.Tk) (ht : s.toks = ⟨⟨k, tx, num⟩, pos, line, tc, first⟩ :: l) (hn2 : n ≤ 100000) (hm1' : Hid (L.isMark ⟨⟨k, tx, num⟩, pos, line, tc, first⟩ [123] = true)) :
    Calls Tryz.prog 168 #[.agg #[], .pointer (some ⟨P, 0, none⟩)] w fun r W' => r = .returned (turnV (L.plainNext e s.toks s.blocks)) ∧ Below w.heap.size w W' := by
  have hdep : Tryz.prog.follows Departure.mixedOrders = true := by kernel_rfl
  have hC : Hid (∀ W : World, Below w.heap.size w W → Calls Tryz.prog 53 #[.pointer (some ⟨P, 0, none⟩)] W fun r W' => r = .returned (.int .i64 (L.col s.blocks : Nat)) ∧ Below W.heap.size W W') := fun W hW => column_c P e s n ov cv bv hbl W (h.below hW)
  have hM : Hid (∀ (x : List UInt8) (W : World), Calls Tryz.prog 72 #[.agg #[.int .i64 (k : Int), .string (bs tx), .int .i64 (num : Int), .int .i64 (pos : Int), .int .i64 (line : Int), .int .i64 (tc : Int), .bool first], .string (bs x)] W fun r W' => r = .returned (.bool (L.isMark ⟨⟨k, tx, num⟩, pos, line, tc, first⟩ x)) ∧ Below W.heap.size W W') := fun x W => isMark_c k tx num pos line tc first x W
  have hO : Hid (∀ W : World, Calls Tryz.prog 170 #[.agg #[.int .i64 (k : Int), .string (bs tx), .int .i64 (num : Int), .int .i64 (pos : Int), .int .i64 (line : Int), .int .i64 (tc : Int), .bool first]] W fun r W' => r = .returned (.bool (L.opens ⟨⟨k, tx, num⟩, pos, line, tc, first⟩)) ∧ Below W.heap.size W W') := fun W => opens_c k tx num pos line tc first W
  obtain ⟨m, rfl⟩ : ∃ m, n = m + 1 := ⟨l.length, by rw [← h.len, ht]; rfl⟩
  have hl : l.length = m := by have := h.len; rw [ht] at this; simpa using this
  have htk := h.toks
  rw [ht] at htk
  obtain ⟨g, f, hov, hgP, d0, d1, d2, d3, d4, d5, d6⟩ := htk.head
  subst hov
  simp only at d0 d1 d2 d3 d4 d5 d6
  obtain ⟨o', hsl, htl⟩ := slice_tail g f m cv h.cap w w.heap.size _ l hl htk
  have hPl : P < w.heap.size := h.blk.lt
  have hgl : g < w.heap.size := hgP
  have hA : Hid (∀ (b : Bool) (W : World), Below w.heap.size w W → Calls Tryz.prog 42 #[.slice o' m (cv - 1), .bool b] W fun r W' => r = .returned (stV (L.ahead l b)) ∧ Below W.heap.size W W') := fun b W hW => ahead_c l b o' m (cv - 1) hl (by omega) W ((htl.below (Nat.le_refl _) hW).mono hW.size)
  obtain ⟨bo, bc, rfl⟩ := owns_len h.bks
  have hPW : Hid (∀ W : World, Below w.heap.size w W → Blk W P #[.slice (some ⟨g, f, none⟩) (m + 1) cv, .int .i64 (e : Int), stV s.st, .slice bo s.blocks.length bc, .int .i64 (s.owed : Int)] 57) := fun W hW => h.blk.below hW
  obtain ⟨q0, q1, q2, q3, q4, g0, g1, g2, g3, g4⟩ := h.blk.all5
  clear h htk htl hl hn2
  obtain ⟨op, hop⟩ : ∃ op, L.opens ⟨⟨k, tx, num⟩, pos, line, tc, first⟩ = op := ⟨_, rfl⟩
  rw [hop] at hO
  obtain ⟨sty, sva, hsv⟩ : ∃ sty sva, stV (L.ahead l op) = .iface sty sva := by cases L.ahead l op <;> exact ⟨_, _, rfl⟩
  have hA' : Hid (∀ W : World, Below w.heap.size w W → Calls Tryz.prog 42 #[.slice o' m (cv - 1), .bool op] W fun r W' => r = .returned (.iface sty sva) ∧ Below W.heap.size W W') := by rw [← hsv]; exact hA.out op
  clear hA
  have hT0 : Hid (∀ (o1 o2 : Obj), Below w.heap.size w (((w.alloc o1).alloc o2).alloc (.cells #[.int .i64 (k : Int), .string (bs tx), .int .i64 (num : Int), .int .i64 (pos : Int), .int .i64 (line : Int), .int .i64 (tc : Int), .bool first] 43))) := fun o1 o2 => (((Below.refl _ w).alloc (Nat.le_refl _) _).alloc (by simp) _).alloc (by simp; omega) _
  have hT1 : Hid (∀ (o1 o2 : Obj), Blk (((w.alloc o1).alloc o2).alloc (.cells #[.int .i64 (k : Int), .string (bs tx), .int .i64 (num : Int), .int .i64 (pos : Int), .int .i64 (line : Int), .int .i64 (tc : Int), .bool first] 43)) (w.heap.size + 1 + 1) #[.int .i64 (k : Int), .string (bs tx), .int .i64 (num : Int), .int .i64 (pos : Int), .int .i64 (line : Int), .int .i64 (tc : Int), .bool first] 43) := by
    intro o1 o2
    have := Blk.new ((w.alloc o1).alloc o2) #[.int .i64 (k : Int), .string (bs tx), .int .i64 (num : Int), .int .i64 (pos : Int), .int .i64 (line : Int), .int .i64 (tc : Int), .bool first] 43
    simpa using this
  have hT2 : Hid (∀ (o1 o2 : Obj), Blk (((w.alloc o1).alloc (.cells #[.int .i64 0, .string ⟨#[]⟩, .int .i64 0, .int .i64 0, .int .i64 0, .int .i64 0, .bool false, .bool false, .int .i64 0, .nilIface, .bool false, .int .i64 0, .bool false, .int .i64 0] 85)).alloc o2) (w.heap.size + 1) #[.int .i64 0, .string ⟨#[]⟩, .int .i64 0, .int .i64 0, .int .i64 0, .int .i64 0, .bool false, .bool false, .int .i64 0, .nilIface, .bool false, .int .i64 0, .bool false, .int .i64 0] 85) := fun o1 o2 => (Blk.new1 w o1 _ _).alloc o2
  go_enter Tryz.func168, Tryz.ntmps168
  go_wp2_with fail
  obtain ⟨W1, hW1⟩ : ∃ W1, W1 = ((w.alloc (.cells #[] 107)).alloc (.cells #[.int .i64 0, .string ⟨#[]⟩, .int .i64 0, .int .i64 0, .int .i64 0, .int .i64 0, .bool false, .bool false, .int .i64 0, .nilIface, .bool false, .int .i64 0, .bool false, .int .i64 0] 85)).alloc (.cells #[.int .i64 (k : Int), .string (bs tx), .int .i64 (num : Int), .int .i64 (pos : Int), .int .i64 (line : Int), .int .i64 (tc : Int), .bool first] 43) := ⟨_, rfl⟩
  have hF1 : Hid (Below w.heap.size w W1) := by rw [hW1]; exact hT0.out _ _
  have hK1 : Hid (Blk W1 (w.heap.size + 1 + 1) #[.int .i64 (k : Int), .string (bs tx), .int .i64 (num : Int), .int .i64 (pos : Int), .int .i64 (line : Int), .int .i64 (tc : Int), .bool first] 43) := by rw [hW1]; exact hT1.out _ _
  have hR1 : Hid (Blk W1 (w.heap.size + 1) #[.int .i64 0, .string ⟨#[]⟩, .int .i64 0, .int .i64 0, .int .i64 0, .int .i64 0, .bool false, .bool false, .int .i64 0, .nilIface, .bool false, .int .i64 0, .bool false, .int .i64 0] 85) := by rw [hW1]; exact hT2.out _ _
  rw [← hW1]
  clear hW1 hT0 hT1 hT2 q0 q1 q2 q3 q4 g0 g1 g2 g3 g4 d0 d1 d2 d3 d4 d5 d6
  obtain ⟨bl, hbl'⟩ : ∃ bl, s.blocks.length = bl := ⟨_, rfl⟩
  rw [hbl'] at hPW
  obtain ⟨q0, q1, q2, q3, q4, -, -, -, -, -⟩ := (hPW.out W1 hF1.out).all5
  obtain ⟨t0, t1, t2, t3, t4, t5, t6, -, -, -, -, -, -, -⟩ := hK1.out.all7
  have hal : Hid (∀ (X : World) (o : Obj), Hid (B3 w X #[.int .i64 (k : Int), .string (bs tx), .int .i64 (num : Int), .int .i64 (pos : Int), .int .i64 (line : Int), .int .i64 (tc : Int), .bool first]) → B3 w (X.alloc o) #[.int .i64 (k : Int), .string (bs tx), .int .i64 (num : Int), .int .i64 (pos : Int), .int .i64 (line : Int), .int .i64 (tc : Int), .bool first]) := fun X o h => h.out.alloc o
  have hbe : Hid (∀ (X Y : World), Hid (B3 w X #[.int .i64 (k : Int), .string (bs tx), .int .i64 (num : Int), .int .i64 (pos : Int), .int .i64 (line : Int), .int .i64 (tc : Int), .bool first]) → Below X.heap.size X Y → B3 w Y #[.int .i64 (k : Int), .string (bs tx), .int .i64 (num : Int), .int .i64 (pos : Int), .int .i64 (line : Int), .int .i64 (tc : Int), .bool first]) := fun X Y h hb => h.out.below hb
  have hmk : Hid (∀ X : World, B3 w X #[.int .i64 (k : Int), .string (bs tx), .int .i64 (num : Int), .int .i64 (pos : Int), .int .i64 (line : Int), .int .i64 (tc : Int), .bool first] → (Hid (B3 w X #[.int .i64 (k : Int), .string (bs tx), .int .i64 (num : Int), .int .i64 (pos : Int), .int .i64 (line : Int), .int .i64 (tc : Int), .bool first]) ∧ X.cell? ⟨P, 0, none⟩ = some (.slice (some ⟨g, f, none⟩) (m + 1) cv) ∧ X.cell? ⟨w.heap.size + 1 + 1, 0, none⟩ = some (.int .i64 (k : Int)) ∧ X.cell? ⟨w.heap.size + 1 + 1, 1, none⟩ = some (.string (bs tx)) ∧ X.cell? ⟨w.heap.size + 1 + 1, 2, none⟩ = some (.int .i64 (num : Int)) ∧ X.cell? ⟨w.heap.size + 1 + 1, 3, none⟩ = some (.int .i64 (pos : Int)) ∧ X.cell? ⟨w.heap.size + 1 + 1, 4, none⟩ = some (.int .i64 (line : Int)) ∧ X.cell? ⟨w.heap.size + 1 + 1, 5, none⟩ = some (.int .i64 (tc : Int)) ∧ X.cell? ⟨w.heap.size + 1 + 1, 6, none⟩ = some (.bool first))) := by
    intro X h
    obtain ⟨z0, -⟩ := (hPW.out X h.1).all5
    obtain ⟨y0, y1, y2, y3, y4, y5, y6, -⟩ := h.2.1.all7
    exact ⟨h, z0, y0, y1, y2, y3, y4, y5, y6⟩
  have hB1 : Hid (B3 w W1.drew #[.int .i64 (k : Int), .string (bs tx), .int .i64 (num : Int), .int .i64 (pos : Int), .int .i64 (line : Int), .int .i64 (tc : Int), .bool first]) := ⟨hF1.out.drew, hK1.out.drew, hR1.out.drew⟩
  have hB1d : Hid (∀ o : Obj, B3 w (W1.alloc o).drew #[.int .i64 (k : Int), .string (bs tx), .int .i64 (num : Int), .int .i64 (pos : Int), .int .i64 (line : Int), .int .i64 (tc : Int), .bool first]) := fun o => ⟨(hF1.out.alloc hF1.out.size _).drew, (hK1.out.alloc _).drew, (hR1.out.alloc _).drew⟩
  have hA3 : Hid (∀ W : World, Hid (B3 w W #[.int .i64 (k : Int), .string (bs tx), .int .i64 (num : Int), .int .i64 (pos : Int), .int .i64 (line : Int), .int .i64 (tc : Int), .bool first]) → Calls Tryz.prog 42 #[.slice o' m (cv - 1), .bool op] W fun r W' => r = .returned (.iface sty sva) ∧ Below W.heap.size W W') := fun W h => hA'.out W h.out.1
  clear q0 q1 q2 q3 q4 t0 t1 t2 t3 t4 t5 t6 hA'
  go_region_held3 (fun X : World => Hid (B3 w X #[.int .i64 (k : Int), .string (bs tx), .int .i64 (num : Int), .int .i64 (pos : Int), .int .i64 (line : Int), .int .i64 (tc : Int), .bool first]) ∧ X.cell? ⟨P, 0, none⟩ = some (.slice (some ⟨g, f, none⟩) (m + 1) cv) ∧ X.cell? ⟨w.heap.size + 1 + 1, 0, none⟩ = some (.int .i64 (k : Int)) ∧ X.cell? ⟨w.heap.size + 1 + 1, 1, none⟩ = some (.string (bs tx)) ∧ X.cell? ⟨w.heap.size + 1 + 1, 2, none⟩ = some (.int .i64 (num : Int)) ∧ X.cell? ⟨w.heap.size + 1 + 1, 3, none⟩ = some (.int .i64 (pos : Int)) ∧ X.cell? ⟨w.heap.size + 1 + 1, 4, none⟩ = some (.int .i64 (line : Int)) ∧ X.cell? ⟨w.heap.size + 1 + 1, 5, none⟩ = some (.int .i64 (tc : Int)) ∧ X.cell? ⟨w.heap.size + 1 + 1, 6, none⟩ = some (.bool first))
    (first
      | with_reducible exact hmk.out _ hB1.out
      | with_reducible exact hmk.out _ hS3.out
      | with_reducible exact hmk.out _ hS2.out
      | with_reducible exact hmk.out _ (hal.out _ _ hS3)
      | with_reducible exact hmk.out _ (hal.out _ _ hS2)
      | with_reducible exact hmk.out _ (hal.out _ _ hB1)
      | with_reducible exact hmk.out _ (hB1d.out _)
      | with_reducible exact hmk.out _ (B3.set14 hS3.out hQl _ _ _ _ _ _ _ _ _ _ _ _ _ _))
    (first
      | (go_at_call 170; refine (hO.out _).mono ?_; rintro r w2 ⟨rfl, hb2⟩; have hS2 : Hid (B3 w w2 #[.int .i64 (k : Int), .string (bs tx), .int .i64 (num : Int), .int .i64 (pos : Int), .int .i64 (line : Int), .int .i64 (tc : Int), .bool first]) := hbe.out _ _ (And.left (by with_reducible assumption)) hb2; (first | (have hQa1 : Blk w2 W1.heap.size #[.int .i64 0, .string ⟨#[]⟩, .int .i64 0, .int .i64 0, .int .i64 0, .int .i64 0, .bool false, .bool false, .int .i64 0, .nilIface, .bool false, .int .i64 0, .bool false, .int .i64 0] 85 := (by with_reducible exact ((Blk.new W1 _ _).drew).below hb2); have hQa : Hid (Blk w2 W1.heap.size #[.int .i64 0, .string ⟨#[]⟩, .int .i64 0, .int .i64 0, .int .i64 0, .int .i64 0, .bool false, .bool false, .int .i64 0, .nilIface, .bool false, .int .i64 0, .bool false, .int .i64 0] 85) := hQa1; obtain ⟨c0, c1, c2, c3, c4, c5, c6, c7, c8, c9, c10, c11, c12, c13, f0, f1, f2, f3, f4, f5, f6, f7, f8, f9, f10, f11, f12, f13⟩ := hQa.out.all14) | skip); clear hb2)
      | (go_at_call 42; refine (hA3.out _ (And.left (by with_reducible assumption))).mono ?_; rintro r w3 ⟨rfl, hb3⟩; have hS3 : Hid (B3 w w3 #[.int .i64 (k : Int), .string (bs tx), .int .i64 (num : Int), .int .i64 (pos : Int), .int .i64 (line : Int), .int .i64 (tc : Int), .bool first]) := hbe.out _ _ (And.left (by with_reducible assumption)) hb3; (first | (have hQb1 : Blk w3 w2.heap.size #[.int .i64 0, .string ⟨#[]⟩, .int .i64 0, .int .i64 0, .int .i64 0, .int .i64 0, .bool false, .bool false, .int .i64 0, .nilIface, .bool false, .int .i64 0, .bool false, .int .i64 0] 85 := (by with_reducible exact (Blk.new w2 _ _).below hb3); have hQb : Hid (Blk w3 w2.heap.size #[.int .i64 0, .string ⟨#[]⟩, .int .i64 0, .int .i64 0, .int .i64 0, .int .i64 0, .bool false, .bool false, .int .i64 0, .nilIface, .bool false, .int .i64 0, .bool false, .int .i64 0] 85) := hQb1; have hQl : w.heap.size + 1 + 1 < w2.heap.size := hS2.out.2.1.lt; obtain ⟨e0, e1, e2, e3, e4, e5, e6, e7, e8, e9, e10, e11, e12, e13, h0, h1, h2, h3, h4, h5, h6, h7, h8, h9, h10, h11, h12, h13⟩ := hQb.out.all14) | (have hQb1 : Blk w3 W1.heap.size #[.int .i64 0, .string ⟨#[]⟩, .int .i64 0, .int .i64 0, .int .i64 0, .int .i64 0, .bool false, .bool false, .int .i64 0, .nilIface, .bool false, .int .i64 0, .bool false, .int .i64 0] 85 := (by with_reducible exact hQa.out.below hb3); have hQb : Hid (Blk w3 W1.heap.size #[.int .i64 0, .string ⟨#[]⟩, .int .i64 0, .int .i64 0, .int .i64 0, .int .i64 0, .bool false, .bool false, .int .i64 0, .nilIface, .bool false, .int .i64 0, .bool false, .int .i64 0] 85) := hQb1; have hQl : w.heap.size + 1 + 1 < W1.heap.size := hK1.out.lt; obtain ⟨e0, e1, e2, e3, e4, e5, e6, e7, e8, e9, e10, e11, e12, e13, h0, h1, h2, h3, h4, h5, h6, h7, h8, h9, h10, h11, h12, h13⟩ := hQb.out.all14) | skip); clear hb3))
  all_goals first
    | (obtain ⟨X, hX⟩ : ∃ X, X = w3.alloc (.cells #[.int .i64 (k : Int), .string (bs tx), .int .i64 (num : Int), .int .i64 (pos : Int), .int .i64 (line : Int), .int .i64 (tc : Int), .bool first, .bool false, .int .i64 0, .iface sty sva, .bool false, .int .i64 0, .bool false, .int .i64 0] 85) := ⟨_, rfl⟩
       rw [← hX]
       have hXQ : Hid (Blk X w3.heap.size #[.int .i64 (k : Int), .string (bs tx), .int .i64 (num : Int), .int .i64 (pos : Int), .int .i64 (line : Int), .int .i64 (tc : Int), .bool first, .bool false, .int .i64 0, .iface sty sva, .bool false, .int .i64 0, .bool false, .int .i64 0] 85) := by rw [hX]; exact Blk.new w3 _ _
       have hXB : Hid (B3 w X #[.int .i64 (k : Int), .string (bs tx), .int .i64 (num : Int), .int .i64 (pos : Int), .int .i64 (line : Int), .int .i64 (tc : Int), .bool first]) := by rw [hX]; exact hal.out _ _ hS3
       have hQT : w.heap.size + 1 + 1 < w3.heap.size := hS3.out.2.1.lt
       clear hX
       generalize w3.heap.size = Q at *)
    | (obtain ⟨X, hX⟩ : ∃ X, X = ((((((((((((((w3.setCell ⟨w2.heap.size, 0, none⟩ (.int .i64 (k : Int))).setCell ⟨w2.heap.size, 1, none⟩ (.string (bs tx))).setCell ⟨w2.heap.size, 2, none⟩ (.int .i64 (num : Int))).setCell ⟨w2.heap.size, 3, none⟩ (.int .i64 (pos : Int))).setCell ⟨w2.heap.size, 4, none⟩ (.int .i64 (line : Int))).setCell ⟨w2.heap.size, 5, none⟩ (.int .i64 (tc : Int))).setCell ⟨w2.heap.size, 6, none⟩ (.bool first)).setCell ⟨w2.heap.size, 7, none⟩ (.bool false)).setCell ⟨w2.heap.size, 8, none⟩ (.int .i64 0)).setCell ⟨w2.heap.size, 9, none⟩ (.iface sty sva)).setCell ⟨w2.heap.size, 10, none⟩ (.bool false)).setCell ⟨w2.heap.size, 11, none⟩ (.int .i64 0)).setCell ⟨w2.heap.size, 12, none⟩ (.bool false)).setCell ⟨w2.heap.size, 13, none⟩ (.int .i64 0)) := ⟨_, rfl⟩
       rw [← hX]
       have hXQ : Hid (Blk X w2.heap.size #[.int .i64 (k : Int), .string (bs tx), .int .i64 (num : Int), .int .i64 (pos : Int), .int .i64 (line : Int), .int .i64 (tc : Int), .bool first, .bool false, .int .i64 0, .iface sty sva, .bool false, .int .i64 0, .bool false, .int .i64 0] 85) := by rw [hX]; show Blk _ _ _ _; with_reducible exact hQb.out.setAll14 (.int .i64 (k : Int)) (.string (bs tx)) (.int .i64 (num : Int)) (.int .i64 (pos : Int)) (.int .i64 (line : Int)) (.int .i64 (tc : Int)) (.bool first) (.bool false) (.int .i64 0) (.iface sty sva) (.bool false) (.int .i64 0) (.bool false) (.int .i64 0)
       have hXB : Hid (B3 w X #[.int .i64 (k : Int), .string (bs tx), .int .i64 (num : Int), .int .i64 (pos : Int), .int .i64 (line : Int), .int .i64 (tc : Int), .bool first]) := by rw [hX]; show B3 _ _ _; with_reducible exact B3.set14 hS3.out hQl (.int .i64 (k : Int)) (.string (bs tx)) (.int .i64 (num : Int)) (.int .i64 (pos : Int)) (.int .i64 (line : Int)) (.int .i64 (tc : Int)) (.bool first) (.bool false) (.int .i64 0) (.iface sty sva) (.bool false) (.int .i64 0) (.bool false) (.int .i64 0)
       have hQT : w.heap.size + 1 + 1 < w2.heap.size := hQl
       clear hX
       generalize w2.heap.size = Q at *)
    | (obtain ⟨X, hX⟩ : ∃ X, X = ((((((((((((((w3.setCell ⟨W1.heap.size, 0, none⟩ (.int .i64 (k : Int))).setCell ⟨W1.heap.size, 1, none⟩ (.string (bs tx))).setCell ⟨W1.heap.size, 2, none⟩ (.int .i64 (num : Int))).setCell ⟨W1.heap.size, 3, none⟩ (.int .i64 (pos : Int))).setCell ⟨W1.heap.size, 4, none⟩ (.int .i64 (line : Int))).setCell ⟨W1.heap.size, 5, none⟩ (.int .i64 (tc : Int))).setCell ⟨W1.heap.size, 6, none⟩ (.bool first)).setCell ⟨W1.heap.size, 7, none⟩ (.bool false)).setCell ⟨W1.heap.size, 8, none⟩ (.int .i64 0)).setCell ⟨W1.heap.size, 9, none⟩ (.iface sty sva)).setCell ⟨W1.heap.size, 10, none⟩ (.bool false)).setCell ⟨W1.heap.size, 11, none⟩ (.int .i64 0)).setCell ⟨W1.heap.size, 12, none⟩ (.bool false)).setCell ⟨W1.heap.size, 13, none⟩ (.int .i64 0)) := ⟨_, rfl⟩
       rw [← hX]
       have hXQ : Hid (Blk X W1.heap.size #[.int .i64 (k : Int), .string (bs tx), .int .i64 (num : Int), .int .i64 (pos : Int), .int .i64 (line : Int), .int .i64 (tc : Int), .bool first, .bool false, .int .i64 0, .iface sty sva, .bool false, .int .i64 0, .bool false, .int .i64 0] 85) := by rw [hX]; show Blk _ _ _ _; with_reducible exact hQb.out.setAll14 (.int .i64 (k : Int)) (.string (bs tx)) (.int .i64 (num : Int)) (.int .i64 (pos : Int)) (.int .i64 (line : Int)) (.int .i64 (tc : Int)) (.bool first) (.bool false) (.int .i64 0) (.iface sty sva) (.bool false) (.int .i64 0) (.bool false) (.int .i64 0)
       have hXB : Hid (B3 w X #[.int .i64 (k : Int), .string (bs tx), .int .i64 (num : Int), .int .i64 (pos : Int), .int .i64 (line : Int), .int .i64 (tc : Int), .bool first]) := by rw [hX]; show B3 _ _ _; with_reducible exact B3.set14 hS3.out hQl (.int .i64 (k : Int)) (.string (bs tx)) (.int .i64 (num : Int)) (.int .i64 (pos : Int)) (.int .i64 (line : Int)) (.int .i64 (tc : Int)) (.bool first) (.bool false) (.int .i64 0) (.iface sty sva) (.bool false) (.int .i64 0) (.bool false) (.int .i64 0)
       have hQT : w.heap.size + 1 + 1 < W1.heap.size := hQl
       clear hX
       generalize W1.heap.size = Q at *)
  all_goals (
    have hRQ : w.heap.size + 1 ≠ Q := by omega
    have hRQ' : Q ≠ w.heap.size + 1 := by omega
    obtain ⟨y0, y1, y2, y3, y4, y5, y6, -⟩ := hXB.out.2.1.all7
    have hm1 := hm1'.out
    clear hm1'
    have HT : Hid (turnV (L.plainNext e s.toks s.blocks) = .agg #[.int .i64 (k : Int), .string (bs tx), .int .i64 (num : Int), .int .i64 (pos : Int), .int .i64 (line : Int), .int .i64 (tc : Int), .bool first, .bool false, .int .i64 0, .iface sty sva, .bool true, .int .i64 0, .bool false, .int .i64 0]) := by
      show _ = _
      rw [ht]
      unfold L.plainNext
      simp only
      rw [if_pos hm1, hop]
      show Value.agg #[_, _, _, _, _, _, _, _, _, stV (L.ahead l op), _, _, _, _] = _
      rw [hsv]
      rfl
    have hM1 : Hid (∀ W : World, Calls Tryz.prog 72 #[.agg #[.int .i64 (k : Int), .string (bs tx), .int .i64 (num : Int), .int .i64 (pos : Int), .int .i64 (line : Int), .int .i64 (tc : Int), .bool first], .string (bs [123])] W fun r W' => r = .returned (.bool true) ∧ Below W.heap.size W W') := by
      intro W
      have := hM.out [123] W
      rw [hm1] at this
      exact this
    clear hm1
    go_wp2_with (go_at_call 72; fail)
    refine (hM1.out _).mono ?_
    rintro r w5 ⟨rfl, hb5⟩
    have hB5 : Hid (B3 w w5 #[.int .i64 (k : Int), .string (bs tx), .int .i64 (num : Int), .int .i64 (pos : Int), .int .i64 (line : Int), .int .i64 (tc : Int), .bool first]) := hXB.out.below hb5
    have hQ5 : Hid (Blk w5 Q #[.int .i64 (k : Int), .string (bs tx), .int .i64 (num : Int), .int .i64 (pos : Int), .int .i64 (line : Int), .int .i64 (tc : Int), .bool first, .bool false, .int .i64 0, .iface sty sva, .bool false, .int .i64 0, .bool false, .int .i64 0] 85) := hXQ.out.below hb5
    clear hb5 y0 y1 y2 y3 y4 y5 y6
    obtain ⟨c0, c1, c2, c3, c4, c5, c6, c7, c8, c9, c10, c11, c12, c13, f0, f1, f2, f3, f4, f5, f6, f7, f8, f9, f10, f11, f12, f13⟩ := hQ5.out.all14
    obtain ⟨e0, e1, e2, e3, e4, e5, e6, e7, e8, e9, e10, e11, e12, e13, h0, h1, h2, h3, h4, h5, h6, h7, h8, h9, h10, h11, h12, h13⟩ := hB5.out.2.2.all14
    go_wp2
    have z := ((hB5.out.2.2.other1 hRQ 10 (.bool true)).setAll14 (.int .i64 (k : Int)) (.string (bs tx)) (.int .i64 (num : Int)) (.int .i64 (pos : Int)) (.int .i64 (line : Int)) (.int .i64 (tc : Int)) (.bool first) (.bool false) (.int .i64 0) (.iface sty sva) (.bool true) (.int .i64 0) (.bool false) (.int .i64 0)).all14
    exact bodyPost_ret (v := .agg #[.int .i64 (k : Int), .string (bs tx), .int .i64 (num : Int), .int .i64 (pos : Int), .int .i64 (line : Int), .int .i64 (tc : Int), .bool first, .bool false, .int .i64 0, .iface sty sva, .bool true, .int .i64 0, .bool false, .int .i64 0]) (by simp [results, Tryz.results168, go_sem, z]) rfl ⟨by rw [HT.out], below_set14 (below_setB hB5.out.1 (by omega) 10 (.bool true)) (by omega) (.int .i64 (k : Int)) (.string (bs tx)) (.int .i64 (num : Int)) (.int .i64 (pos : Int)) (.int .i64 (line : Int)) (.int .i64 (tc : Int)) (.bool first) (.bool false) (.int .i64 0) (.iface sty sva) (.bool true) (.int .i64 0) (.bool false) (.int .i64 0)⟩)

end Go.Proofs.YtldpldcfgkceeaaGreatDoor
