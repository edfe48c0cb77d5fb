/-
  Layout: Take, by contracts.
  Layout: Take where nothing comes, and Wrong, by contracts.
-/
import Derived.Test.YtldpldcfgkceeaaGreatDoorQLayB
import Derived.Test.YtldpldcfgkceeaaGreatDoorQLay9
import Derived.Deep.RegionHeld3
namespace Go.Proofs.YtldpldcfgkceeaaGreatDoor
open Go.RowKit Go.Shelf Go.Maps
set_option linter.unusedVariables false

/-- A stream stays where another block is written. -/
theorem Strm.other {W V : World} {P R e : Nat} {s : L.S} {n : Nat} {ov : Option Addr} {cv : Nat} {bv : Value} (h : Strm W P e s n ov cv bv) (hc : Chg W V R none) (hP : P ≠ R) (ht : ∀ a, ov = some a → a.block ≠ R) (hb : bv.ownBlock ≠ some R) : Strm V P e s n ov cv bv :=
  ⟨h.blk.chg hc hP (by simp), h.len, h.cap, tok_chg h.toks hc (fun a ha => ⟨ht a ha, by simp⟩), owns_chg h.bks hc hb (by cases hh : bv.ownBlock with | none => exact .inl rfl | some k => exact .inr (by simp))⟩
theorem chg_set8 {w W : World} {R : Nat} (h : Chg w W R none) (u0 u1 u2 u3 u4 u5 u6 u7 : Value) : Chg w ((((((((W.setCell ⟨R, 0, none⟩ u0).setCell ⟨R, 1, none⟩ u1).setCell ⟨R, 2, none⟩ u2).setCell ⟨R, 3, none⟩ u3).setCell ⟨R, 4, none⟩ u4).setCell ⟨R, 5, none⟩ u5).setCell ⟨R, 6, none⟩ u6).setCell ⟨R, 7, none⟩ u7) R none := (((((((h.set 0 u0).set 1 u1).set 2 u2).set 3 u3).set 4 u4).set 5 u5).set 6 u6).set 7 u7
/-- What a change and a store into a new block leave. -/
theorem chg_new {w W V : World} {P R : Nat} {rb : Option Nat} (h : Chg w W P rb) (hR : w.heap.size ≤ R) (hc : Chg W V R none) : Chg w V P rb :=
  ⟨hc.os.trans h.os, hc.tape.trans h.tape, hc.output.trans h.output, Nat.le_trans h.size hc.size, fun k hk h1 h2 => (hc.block k (Nat.lt_of_lt_of_le hk h.size) (by omega) (by simp)).trans (h.block k hk h1 h2)⟩

set_option maxHeartbeats 16000000 in
set_option maxRecDepth 100000 in
theorem takeOn_c (P B e : Nat) (s : L.S) (n : Nat) (ov : Option Addr) (cv : Nat) (bv : Value) (hbl : s.blocks.length ≤ 100000) (hn2 : n ≤ 100000) (ho2 : s.owed ≤ 100000) (w : World) (h : Strm w P e s n ov cv bv) (hs : Sep P B ov bv) (hB : B ≤ w.heap.size) (h0 : (L.coming e s).err = 0) :
    Calls Tryz.prog 26 #[.pointer (some ⟨P, 0, none⟩)] w fun r W' => r = .returned (.tuple #[lxV (L.coming e s).lx, .int .i64 0]) ∧ ∃ n' ov' cv' bv', Strm W' P e (L.follow s (L.coming e s)) n' ov' cv' bv' ∧ Sep P B ov' bv' ∧ Chg w W' P bv.ownBlock ∧ Nxt w bv.ownBlock bv'.ownBlock := by
  have hdep : Tryz.prog.follows Departure.mixedOrders = true := by kernel_rfl
  have hM : Hid (∀ W : World, Below w.heap.size w W → Calls Tryz.prog 45 #[.pointer (some ⟨P, 0, none⟩)] W fun r W' => r = .returned (.bool true) ∧ W' = W) := fun W hW => made_c P e s n ov cv bv W (h.below hW)
  have hC : Hid (∀ W : World, Below w.heap.size w W → Calls Tryz.prog 46 #[.pointer (some ⟨P, 0, none⟩)] W fun r W' => r = .returned (turnV (L.coming e s)) ∧ Below W.heap.size W W') := fun W hW => coming_c P e s n ov cv bv hbl W (h.below hW) hn2 ho2
  have hF : Hid (∀ W : World, Below w.heap.size w W → Calls Tryz.prog 51 #[.pointer (some ⟨P, 0, none⟩), turnV (L.coming e s)] W fun r W' => r = .returned (.tuple #[]) ∧ ∃ n' ov' cv' bv', Strm W' P e (L.follow s (L.coming e s)) n' ov' cv' bv' ∧ Sep P B ov' bv' ∧ Chg W W' P bv.ownBlock ∧ Nxt W bv.ownBlock bv'.ownBlock) := fun W hW => follow_c P B e s n ov cv bv _ (L.fit_coming e s h0) (fun hi => by have := (L.good_coming e s h0).2.2; rw [if_neg (by simp [hi])] at this; exact this) hbl ho2 W (h.below hW) hs (Nat.le_trans hB hW.size)
  have hB0 : Hid (∀ o : Obj, Below w.heap.size w (w.alloc o)) := fun o => (Below.refl _ w).alloc (Nat.le_refl _) _
  have hPl : P < w.heap.size := h.blk.lt
  have hrb : Hid (∀ k, bv.ownBlock = some k → P + 1 ≤ k ∧ k < w.heap.size) := h.bks.lt
  obtain ⟨x, hx⟩ := (L.fit_coming e s h0).st
  obtain ⟨sty, sva, hsv⟩ := st_iface x
  obtain ⟨s', hs'⟩ : ∃ s', L.follow s (L.coming e s) = s' := ⟨_, rfl⟩
  rw [hs'] at hF ⊢
  have HB : Hid (B ≤ w.heap.size) := hB
  clear h hs hB hs' hbl hn2 ho2
  generalize L.coming e s = t at *
  obtain ⟨⟨⟨⟨k, tx, num⟩, pos, line, tc, first⟩, imp⟩, err, st, beg, column, ends, owed⟩ := t
  simp only at h0 hx
  subst h0 hx
  have hV : turnV ⟨⟨⟨⟨k, tx, num⟩, pos, line, tc, first⟩, imp⟩, 0, some x, beg, column, ends, owed⟩ = .agg #[.int .i64 (k : Int), .string (bs tx), .int .i64 (num : Int), .int .i64 (pos : Int), .int .i64 (line : Int), .int .i64 (tc : Int), .bool first, .bool imp, .int .i64 0, .iface sty sva, .bool beg, .int .i64 (column : Int), .bool ends, .int .i64 owed] := by
    rw [← hsv]; rfl
  rw [hV] at hC hF
  have HL : Hid (lxV ⟨⟨⟨k, tx, num⟩, pos, line, tc, first⟩, imp⟩ = .agg #[.int .i64 (k : Int), .string (bs tx), .int .i64 (num : Int), .int .i64 (pos : Int), .int .i64 (line : Int), .int .i64 (tc : Int), .bool first, .bool imp]) := rfl
  clear hV hsv
  go_enter Tryz.func26, Tryz.ntmps26
  go_wp2_with (go_at_call 45; fail)
  refine (hM.out _ (hB0.out _)).mono ?_
  rintro r w1 ⟨rfl, rfl⟩
  go_wp2_with (go_at_call 46; fail)
  refine (hC.out _ (hB0.out _)).mono ?_
  rintro r w2 ⟨rfl, hb2⟩
  have hF2 : Hid (Below w.heap.size w w2) := (hB0.out _).trans (hb2.mono (by simp))
  have hR2 : Hid (Blk w2 w.heap.size #[.int .i64 0, .string ⟨#[]⟩, .int .i64 0, .int .i64 0, .int .i64 0, .int .i64 0, .bool false, .bool false] 45) := (Blk.new w _ _).below hb2
  have hT : w.heap.size < w2.heap.size := hR2.out.lt
  clear hb2
  go_wp2_with (go_at_call 51; fail)
  have hT3 : Hid (Blk (w2.alloc (.cells #[.int .i64 (k : Int), .string (bs tx), .int .i64 (num : Int), .int .i64 (pos : Int), .int .i64 (line : Int), .int .i64 (tc : Int), .bool first, .bool imp, .int .i64 0, .iface sty sva, .bool beg, .int .i64 (column : Int), .bool ends, .int .i64 owed] 85)) w2.heap.size #[.int .i64 (k : Int), .string (bs tx), .int .i64 (num : Int), .int .i64 (pos : Int), .int .i64 (line : Int), .int .i64 (tc : Int), .bool first, .bool imp, .int .i64 0, .iface sty sva, .bool beg, .int .i64 (column : Int), .bool ends, .int .i64 owed] 85) := Blk.new w2 _ _
  have hR3 : Hid (Blk (w2.alloc (.cells #[.int .i64 (k : Int), .string (bs tx), .int .i64 (num : Int), .int .i64 (pos : Int), .int .i64 (line : Int), .int .i64 (tc : Int), .bool first, .bool imp, .int .i64 0, .iface sty sva, .bool beg, .int .i64 (column : Int), .bool ends, .int .i64 owed] 85)) w.heap.size #[.int .i64 0, .string ⟨#[]⟩, .int .i64 0, .int .i64 0, .int .i64 0, .int .i64 0, .bool false, .bool false] 45) := hR2.out.alloc _
  have hC3 : Hid (Chg w (w2.alloc (.cells #[.int .i64 (k : Int), .string (bs tx), .int .i64 (num : Int), .int .i64 (pos : Int), .int .i64 (line : Int), .int .i64 (tc : Int), .bool first, .bool imp, .int .i64 0, .iface sty sva, .bool beg, .int .i64 (column : Int), .bool ends, .int .i64 owed] 85)) P bv.ownBlock) := Chg.of_below (hF2.out.alloc hF2.out.size _) _ _
  refine (hF.out _ (hF2.out.alloc hF2.out.size _)).mono ?_
  rintro r w3 ⟨rfl, n', ov', cv', bv', hS, hSp, hCh, hNx⟩
  have hR4 : Hid (Blk w3 w.heap.size #[.int .i64 0, .string ⟨#[]⟩, .int .i64 0, .int .i64 0, .int .i64 0, .int .i64 0, .bool false, .bool false] 45) := hR3.out.chg hCh (by omega) (fun e => by have := (hrb.out _ e.symm).2; omega)
  have hT4 : Hid (Blk w3 w2.heap.size #[.int .i64 (k : Int), .string (bs tx), .int .i64 (num : Int), .int .i64 (pos : Int), .int .i64 (line : Int), .int .i64 (tc : Int), .bool first, .bool imp, .int .i64 0, .iface sty sva, .bool beg, .int .i64 (column : Int), .bool ends, .int .i64 owed] 85) := hT3.out.chg hCh (by omega) (fun e => by have := (hrb.out _ e.symm).2; omega)
  have hC4 : Hid (Chg w w3 P bv.ownBlock) := hC3.out.trans hCh (Nxt.refl _ _)
  have hN4 : Hid (Nxt w bv.ownBlock bv'.ownBlock) := Nxt.of hNx (by simp; omega)
  have hb4 : Hid (bv'.ownBlock ≠ some w.heap.size) := by
    intro e
    rcases hNx with h | ⟨k, h, hk⟩
    · rw [h] at e; have := (hrb.out _ e).2; omega
    · rw [h, Option.some.injEq] at e; simp at hk; omega
  have hS4 : Hid (Strm w3 P e s' n' ov' cv' bv' ∧ Sep P B ov' bv') := ⟨hS, hSp⟩
  clear hT3 hR3 hC3 hS hSp hCh hNx hR2
  obtain ⟨c0, c1, c2, c3, c4, c5, c6, c7, c8, c9, c10, c11, c12, c13, f0, f1, f2, f3, f4, f5, f6, f7, f8, f9, f10, f11, f12, f13⟩ := hT4.out.all14
  obtain ⟨d0, d1, d2, d3, d4, d5, d6, d7, g0, g1, g2, g3, g4, g5, g6, g7⟩ := hR4.out.all8
  go_wp2
  have hTR : w2.heap.size ≠ w.heap.size := by omega
  have hRT : w.heap.size ≠ w2.heap.size := by omega
  have HAr : Hid (P < w.heap.size ∧ w.heap.size < w2.heap.size) := ⟨hPl, hT⟩
  clear hM hC hF hB0 hF2 hT hPl hrb
  generalize w2.heap.size = T at *
  have hTd : Hid (Blk w3.drew T #[.int .i64 (k : Int), .string (bs tx), .int .i64 (num : Int), .int .i64 (pos : Int), .int .i64 (line : Int), .int .i64 (tc : Int), .bool first, .bool imp, .int .i64 0, .iface sty sva, .bool beg, .int .i64 (column : Int), .bool ends, .int .i64 owed] 85) := hT4.out.drew
  have hmk : Hid (∀ X : World, Blk X T #[.int .i64 (k : Int), .string (bs tx), .int .i64 (num : Int), .int .i64 (pos : Int), .int .i64 (line : Int), .int .i64 (tc : Int), .bool first, .bool imp, .int .i64 0, .iface sty sva, .bool beg, .int .i64 (column : Int), .bool ends, .int .i64 owed] 85 → X.cell? ⟨T, 0, none⟩ = some (.int .i64 (k : Int)) ∧ X.cell? ⟨T, 1, none⟩ = some (.string (bs tx)) ∧ X.cell? ⟨T, 2, none⟩ = some (.int .i64 (num : Int)) ∧ X.cell? ⟨T, 3, none⟩ = some (.int .i64 (pos : Int)) ∧ X.cell? ⟨T, 4, none⟩ = some (.int .i64 (line : Int)) ∧ X.cell? ⟨T, 5, none⟩ = some (.int .i64 (tc : Int)) ∧ X.cell? ⟨T, 6, none⟩ = some (.bool first) ∧ X.cell? ⟨T, 7, none⟩ = some (.bool imp) ∧ X.cell? ⟨T, 8, none⟩ = some (.int .i64 0)) := by
    intro X h
    obtain ⟨y0, y1, y2, y3, y4, y5, y6, y7, y8, -⟩ := h.all14
    exact ⟨y0, y1, y2, y3, y4, y5, y6, y7, y8⟩
  clear c0 c1 c2 c3 c4 c5 c6 c7 c8 c9 c10 c11 c12 c13 f0 f1 f2 f3 f4 f5 f6 f7 f8 f9 f10 f11 f12 f13
  go_region_held3 (fun X : World => X.cell? ⟨T, 0, none⟩ = some (.int .i64 (k : Int)) ∧ X.cell? ⟨T, 1, none⟩ = some (.string (bs tx)) ∧ X.cell? ⟨T, 2, none⟩ = some (.int .i64 (num : Int)) ∧ X.cell? ⟨T, 3, none⟩ = some (.int .i64 (pos : Int)) ∧ X.cell? ⟨T, 4, none⟩ = some (.int .i64 (line : Int)) ∧ X.cell? ⟨T, 5, none⟩ = some (.int .i64 (tc : Int)) ∧ X.cell? ⟨T, 6, none⟩ = some (.bool first) ∧ X.cell? ⟨T, 7, none⟩ = some (.bool imp) ∧ X.cell? ⟨T, 8, none⟩ = some (.int .i64 0))
    (first
      | with_reducible exact hmk.out _ hTd.out
      | with_reducible exact hmk.out _ (hTd.out.other8 hTR _ _ _ _ _ _ _ _)
      | with_reducible exact hmk.out _ (hT4.out.other8 hTR _ _ _ _ _ _ _ _).drew)
    (fail)
  all_goals go_wp2
  have z := (hR4.out.setAll8 (.int .i64 (k : Int)) (.string (bs tx)) (.int .i64 (num : Int)) (.int .i64 (pos : Int)) (.int .i64 (line : Int)) (.int .i64 (tc : Int)) (.bool first) (.bool imp)).drew.all8
  exact bodyPost_ret (v := .tuple #[.agg #[.int .i64 (k : Int), .string (bs tx), .int .i64 (num : Int), .int .i64 (pos : Int), .int .i64 (line : Int), .int .i64 (tc : Int), .bool first, .bool imp], .int .i64 0]) (by simp [results, Tryz.results26, go_sem, z]) rfl ⟨by rw [HL.out], n', ov', cv', bv', hS4.out.1.other (chg_set8 (Chg.refl w3 w.heap.size none) (.int .i64 (k : Int)) (.string (bs tx)) (.int .i64 (num : Int)) (.int .i64 (pos : Int)) (.int .i64 (line : Int)) (.int .i64 (tc : Int)) (.bool first) (.bool imp)).drew (by have := HAr.out; omega) (fun a ha => by have := (hS4.out.2 a ha).1; have := HB.out; omega) hb4.out, hS4.out.2, chg_new hC4.out (Nat.le_refl _) (chg_set8 (Chg.refl w3 w.heap.size none) (.int .i64 (k : Int)) (.string (bs tx)) (.int .i64 (num : Int)) (.int .i64 (pos : Int)) (.int .i64 (line : Int)) (.int .i64 (tc : Int)) (.bool first) (.bool imp)).drew, hN4.out⟩

end Go.Proofs.YtldpldcfgkceeaaGreatDoor

namespace Go.Proofs.YtldpldcfgkceeaaGreatDoor
open Go.RowKit Go.Shelf Go.Maps
set_option linter.unusedVariables false

set_option maxHeartbeats 4000000 in
set_option maxRecDepth 100000 in
theorem takeOff_c (P e : Nat) (s : L.S) (n : Nat) (ov : Option Addr) (cv : Nat) (bv : Value) (hbl : s.blocks.length ≤ 100000) (hn2 : n ≤ 100000) (ho2 : s.owed ≤ 100000) (w : World) (h : Strm w P e s n ov cv bv) (er : Nat) (her : (L.coming e s).err = er) (h0 : er ≠ 0) :
    Calls Tryz.prog 26 #[.pointer (some ⟨P, 0, none⟩)] w fun r W' => r = .returned (.tuple #[.agg #[.int .i64 0, .string ⟨#[]⟩, .int .i64 0, .int .i64 0, .int .i64 0, .int .i64 0, .bool false, .bool false], .int .i64 (er : Int)]) ∧ Below w.heap.size w W' := by
  have hdep : Tryz.prog.follows Departure.mixedOrders = true := by kernel_rfl
  have hM : Hid (∀ W : World, Below w.heap.size w W → Calls Tryz.prog 45 #[.pointer (some ⟨P, 0, none⟩)] W fun r W' => r = .returned (.bool true) ∧ W' = W) := fun W hW => made_c P e s n ov cv bv W (h.below hW)
  have hC : Hid (∀ W : World, Below w.heap.size w W → Calls Tryz.prog 46 #[.pointer (some ⟨P, 0, none⟩)] W fun r W' => r = .returned (.agg #[.int .i64 0, .string ⟨#[]⟩, .int .i64 0, .int .i64 0, .int .i64 0, .int .i64 0, .bool false, .bool false, .int .i64 (er : Int), .nilIface, .bool false, .int .i64 0, .bool false, .int .i64 0]) ∧ Below W.heap.size W W') := by
    intro W hW
    have := coming_c P e s n ov cv bv hbl W (h.below hW) hn2 ho2
    rw [L.none_stop e s (by omega), her] at this
    exact this
  have hB0 : Hid (∀ o : Obj, Below w.heap.size w (w.alloc o)) := fun o => (Below.refl _ w).alloc (Nat.le_refl _) _
  have hei : ((er : Int) == 0) = false := beq_eq_false_iff_ne.2 (by omega)
  clear h hbl hn2 ho2 her h0
  go_enter Tryz.func26, Tryz.ntmps26
  go_wp2_with (go_at_call 45; fail)
  refine (hM.out _ (hB0.out _)).mono ?_
  rintro r w1 ⟨rfl, rfl⟩
  go_wp2_with (go_at_call 46; fail)
  refine (hC.out _ (hB0.out _)).mono ?_
  rintro r w2 ⟨rfl, hb2⟩
  have hF2 : Hid (Below w.heap.size w w2) := (hB0.out _).trans (hb2.mono (by simp))
  have hR2 : Hid (Blk w2 w.heap.size #[.int .i64 0, .string ⟨#[]⟩, .int .i64 0, .int .i64 0, .int .i64 0, .int .i64 0, .bool false, .bool false] 45) := (Blk.new w _ _).below hb2
  have hT : w.heap.size < w2.heap.size := hR2.out.lt
  have hTR : w2.heap.size ≠ w.heap.size := by omega
  clear hb2 hM hC hB0
  go_wp2_with fail
  obtain ⟨w3, hw3⟩ : ∃ w3, w3 = w2.alloc (.cells #[.int .i64 0, .string ⟨#[]⟩, .int .i64 0, .int .i64 0, .int .i64 0, .int .i64 0, .bool false, .bool false, .int .i64 (er : Int), .nilIface, .bool false, .int .i64 0, .bool false, .int .i64 0] 85) := ⟨_, rfl⟩
  have hT4 : Hid (Blk w3 w2.heap.size #[.int .i64 0, .string ⟨#[]⟩, .int .i64 0, .int .i64 0, .int .i64 0, .int .i64 0, .bool false, .bool false, .int .i64 (er : Int), .nilIface, .bool false, .int .i64 0, .bool false, .int .i64 0] 85) := by rw [hw3]; exact Blk.new w2 _ _
  have hR4 : Hid (Blk w3 w.heap.size #[.int .i64 0, .string ⟨#[]⟩, .int .i64 0, .int .i64 0, .int .i64 0, .int .i64 0, .bool false, .bool false] 45) := by rw [hw3]; exact hR2.out.alloc _
  have hF4 : Hid (Below w.heap.size w w3) := by rw [hw3]; exact hF2.out.alloc hF2.out.size _
  rw [← hw3]
  clear hw3 hF2 hR2 hT
  generalize w2.heap.size = T at *
  have hTd : Hid (Blk w3.drew T #[.int .i64 0, .string ⟨#[]⟩, .int .i64 0, .int .i64 0, .int .i64 0, .int .i64 0, .bool false, .bool false, .int .i64 (er : Int), .nilIface, .bool false, .int .i64 0, .bool false, .int .i64 0] 85) := hT4.out.drew
  have hmk : Hid (∀ X : World, Blk X T #[.int .i64 0, .string ⟨#[]⟩, .int .i64 0, .int .i64 0, .int .i64 0, .int .i64 0, .bool false, .bool false, .int .i64 (er : Int), .nilIface, .bool false, .int .i64 0, .bool false, .int .i64 0] 85 → X.cell? ⟨T, 0, none⟩ = some (.int .i64 0) ∧ X.cell? ⟨T, 1, none⟩ = some (.string ⟨#[]⟩) ∧ X.cell? ⟨T, 2, none⟩ = some (.int .i64 0) ∧ X.cell? ⟨T, 3, none⟩ = some (.int .i64 0) ∧ X.cell? ⟨T, 4, none⟩ = some (.int .i64 0) ∧ X.cell? ⟨T, 5, none⟩ = some (.int .i64 0) ∧ X.cell? ⟨T, 6, none⟩ = some (.bool false) ∧ X.cell? ⟨T, 7, none⟩ = some (.bool false) ∧ X.cell? ⟨T, 8, none⟩ = some (.int .i64 (er : Int))) := by
    intro X h
    obtain ⟨y0, y1, y2, y3, y4, y5, y6, y7, y8, -⟩ := h.all14
    exact ⟨y0, y1, y2, y3, y4, y5, y6, y7, y8⟩
  obtain ⟨d0, d1, d2, d3, d4, d5, d6, d7, g0, g1, g2, g3, g4, g5, g6, g7⟩ := hR4.out.all8
  go_region_held3 (fun X : World => X.cell? ⟨T, 0, none⟩ = some (.int .i64 0) ∧ X.cell? ⟨T, 1, none⟩ = some (.string ⟨#[]⟩) ∧ X.cell? ⟨T, 2, none⟩ = some (.int .i64 0) ∧ X.cell? ⟨T, 3, none⟩ = some (.int .i64 0) ∧ X.cell? ⟨T, 4, none⟩ = some (.int .i64 0) ∧ X.cell? ⟨T, 5, none⟩ = some (.int .i64 0) ∧ X.cell? ⟨T, 6, none⟩ = some (.bool false) ∧ X.cell? ⟨T, 7, none⟩ = some (.bool false) ∧ X.cell? ⟨T, 8, none⟩ = some (.int .i64 (er : Int)))
    (first
      | with_reducible exact hmk.out _ hTd.out
      | with_reducible exact hmk.out _ (hTd.out.other8 hTR _ _ _ _ _ _ _ _)
      | with_reducible exact hmk.out _ (hT4.out.other8 hTR _ _ _ _ _ _ _ _).drew)
    (fail)
  all_goals go_wp2
  have z := (hR4.out.setAll8 (.int .i64 0) (.string ⟨#[]⟩) (.int .i64 0) (.int .i64 0) (.int .i64 0) (.int .i64 0) (.bool false) (.bool false)).drew.all8
  exact bodyPost_ret (v := .tuple #[.agg #[.int .i64 0, .string ⟨#[]⟩, .int .i64 0, .int .i64 0, .int .i64 0, .int .i64 0, .bool false, .bool false], .int .i64 (er : Int)]) (by simp [results, Tryz.results26, go_sem, z]) rfl ⟨rfl, (below_set8 hF4.out (Nat.le_refl _) (.int .i64 0) (.string ⟨#[]⟩) (.int .i64 0) (.int .i64 0) (.int .i64 0) (.int .i64 0) (.bool false) (.bool false)).drew⟩

theorem field5 (w : World) : (Instr.field 85 (.agg #[.int .i64 0, .string ⟨#[]⟩, .int .i64 0, .int .i64 0, .int .i64 0, .int .i64 0, .bool false, .bool false, .int .i64 5, .nilIface, .bool false, .int .i64 0, .bool false, .int .i64 0]) 1).run Tryz.prog w = .ok (.int .i64 5) w := by kernel_rfl

set_option maxHeartbeats 4000000 in
set_option maxRecDepth 100000 in
theorem wrong_c (P e : Nat) (s : L.S) (n : Nat) (ov : Option Addr) (cv : Nat) (bv : Value) (hbl : s.blocks.length ≤ 100000) (hn2 : n ≤ 100000) (ho2 : s.owed ≤ 100000) (w : World) (h : Strm w P e s n ov cv bv) (her : (L.coming e s).err = 5) :
    Calls Tryz.prog 20 #[.pointer (some ⟨P, 0, none⟩)] w fun r W' => r = .returned (.int .i64 (L.place e s.toks : Nat)) ∧ Below w.heap.size w W' := by
  have hdep : Tryz.prog.follows Departure.mixedOrders = true := by kernel_rfl
  have hM : Hid (∀ W : World, Below w.heap.size w W → Calls Tryz.prog 45 #[.pointer (some ⟨P, 0, none⟩)] W fun r W' => r = .returned (.bool true) ∧ W' = W) := fun W hW => made_c P e s n ov cv bv W (h.below hW)
  have hC : Hid (∀ W : World, Below w.heap.size w W → Calls Tryz.prog 46 #[.pointer (some ⟨P, 0, none⟩)] W fun r W' => r = .returned (.agg #[.int .i64 0, .string ⟨#[]⟩, .int .i64 0, .int .i64 0, .int .i64 0, .int .i64 0, .bool false, .bool false, .int .i64 5, .nilIface, .bool false, .int .i64 0, .bool false, .int .i64 0]) ∧ Below W.heap.size W W') := by
    intro W hW
    have := coming_c P e s n ov cv bv hbl W (h.below hW) hn2 ho2
    rw [L.none_stop e s (by omega), her] at this
    exact this
  have hP : Hid (∀ W : World, Below w.heap.size w W → Calls Tryz.prog 48 #[.pointer (some ⟨P, 0, none⟩)] W fun r W' => r = .returned (.int .i64 (L.place e s.toks : Nat)) ∧ W' = W) := fun W hW => place_c P e s n ov cv bv W (h.below hW)
  clear h hbl hn2 ho2 her
  generalize L.place e s.toks = p at *
  have hfd := field5
  go_enter Tryz.func20, Tryz.ntmps20
  go_wp2_with (go_at_call 45; fail)
  refine (hM.out _ (Below.refl _ _)).mono ?_
  rintro r w1 ⟨rfl, rfl⟩
  go_wp2_with (go_at_call 46; fail)
  refine (hC.out _ (Below.refl _ _)).mono ?_
  rintro r w2 ⟨rfl, hb2⟩
  go_wp2_with (go_at_call 48; fail)
  refine (hP.out _ hb2).mono ?_
  rintro r w3 ⟨rfl, rfl⟩
  go_wp2
  go_ret
  exact ⟨rfl, hb2⟩

end Go.Proofs.YtldpldcfgkceeaaGreatDoor
