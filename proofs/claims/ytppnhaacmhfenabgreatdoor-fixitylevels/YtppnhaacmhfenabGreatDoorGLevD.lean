/-
  The law on chains of one operator.
  The law on chains of one operator: what its loop keeps.
  The law on chains of one operator: LevB.
-/
import Derived.Test.YtppnhaacmhfenabGreatDoorGChain
import Derived.Test.YtppnhaacmhfenabGreatDoorGLv
import Derived.Deep.RegionHeld3
import Derived.Deep.CutRange
namespace Go.Proofs.YtppnhaacmhfenabGreatDoor
open Go.RowKit Go.Shelf Go.Maps
set_option linter.unusedVariables false

theorem bs_all (s : ByteArray) : ∃ nm : List UInt8, s = bs nm := ⟨s.data.toList, by cases s; simp [bs]⟩
theorem infoS : (Tryz.prog.info? 9).map (fun i => (i.zero, i.size, i.bytes)) = some (some (.string ⟨#[]⟩), 1, 16) := by kernel_rfl
def LI (nm : List UInt8) (w w3 : World) (k : Nat) (v : Value) (wr : World) : Prop := wr.ownsRow w3.heap.size 9 1 v k (List.replicate k (.string (bs nm))) ∧ Below w.heap.size w wr ∧ w3.heap.size ≤ wr.heap.size
theorem one_str (b : ByteArray) : ∀ u ∈ [Value.string b], u.oneCell' = true := by
  intro u hu
  simp only [List.mem_cons, List.not_mem_nil, or_false] at hu
  rw [hu]
  rfl
theorem li_step {nm : List UInt8} {w w3 wr w7 : World} {k o7 c7 : Nat} {v : Value} (h : Hid (LI nm w w3 k v wr)) (h3 : Hid (w.heap.size ≤ w3.heap.size)) (ho : w7.ownsRow w3.heap.size 9 1 (.slice (some ⟨o7, 0, none⟩) (k + 1) c7) (k + 1) (List.replicate k (.string (bs nm)) ++ [.string (bs nm)])) (hg : (wr.alloc (.cells #[.string (bs nm)] 9)).grownBy w7 v.ownBlock) : Hid (LI nm w w3 (k + 1) (.slice (some ⟨o7, 0, none⟩) (k + 1) c7) w7) := by
  obtain ⟨h1, h2, h4⟩ := h.out
  refine ⟨by rw [List.replicate_succ']; exact ho, ?_, ?_⟩
  · exact ((h2.alloc h2.size _).grown hg (by have := h2.size; simp; omega) (fun r e => Nat.le_trans h3.out (h1.lt r e).1))
  · have := hg.size
    simp at this
    omega
theorem li_news (nm : List UInt8) (wr : World) : ∀ j u, [Value.string (bs nm)][j]? = some u → (wr.alloc (.cells #[.string (bs nm)] 9)).cell? ((⟨wr.heap.size, 0, none⟩ : Addr).add j) = some u := fun j u hu => by
  rw [Addr.add_lit, Nat.zero_add]
  exact (Blk.new wr #[.string (bs nm)] 9).cell j u (by simpa using hu)
theorem li_form {nm : List UInt8} {w w3 wr : World} {n : Nat} {v : Value} (h : LI nm w w3 n v wr) (hn : 1 ≤ n) : ∃ g cap, v = .slice (some ⟨g, 0, none⟩) n cap ∧ g < wr.heap.size ∧ ∀ k, k < n → wr.cell? ⟨g, 0 + k, none⟩ = some (.string (bs nm)) := by
  rcases h.1 with ⟨hl, ⟨h1, h2⟩ | ⟨g, cap, cur, h1, h2, h3, h4, h5, h6, h7⟩⟩
  · omega
  · have hb : Blk wr g cur 9 := h3
    refine ⟨g, cap, h1, hb.lt, fun k hk => hb.cell _ _ ?_⟩
    have e : (cur.toList.take (n * 1))[k]? = some (.string (bs nm)) := by rw [h7, List.getElem?_replicate, if_pos hk]
    rw [List.getElem?_take] at e
    rw [Nat.zero_add]
    split at e
    · rw [← Array.getElem?_toList]; exact e
    · cases e
theorem kids_len (nm : List UInt8) (n : Nat) : (chainO nm n).kids.length = 2 * n + 1 := by
  show (nmO 0 :: tailO nm 1 n).length = _
  rw [List.length_cons, tailO_len]
theorem leaf_op {nm : List UInt8} (h : nm.length ≤ 9223372036854775807) (X : World) : NdIn X X.heap.size (opO nm) none 0 := ⟨.inl rfl, Nat.le_refl _, Nat.zero_le _, show (-9223372036854775808 : Int) ≤ 5 ∧ (5 : Int) ≤ 9223372036854775807 by decide, h, show (-9223372036854775808 : Int) ≤ 0 ∧ (0 : Int) ≤ 9223372036854775807 by decide⟩
theorem resLev (nm : List UInt8) (hnl : nm.length ≤ 60) (hc : chkM (opO nm) = 0) (side level : Int) (hs : (1 ≤ side ∧ side ≤ 3) ∧ 0 ≤ level ∧ level ≤ 9) (n : Nat) (hn : 1 ≤ n ∧ n ≤ 100) (o : Option Addr) (cap : Nat) (w5 : World) (hG : GOK w5) (hN : NdIn w5 w5.heap.size (chainO nm n) o cap) :
    Calls Tryz.prog 9 #[.agg #[.int .i64 17, .string ⟨#[]⟩, .int .i64 0, .slice o (2 * n + 1) cap, .int .i64 0], .slice (some ⟨w5.heap.size, 0, none⟩) 1 1] (w5.alloc (.cells #[.string (bs nm), .int .i64 side, .int .i64 level] 42)) fun e w' => ResRes (w5.alloc (.cells #[.string (bs nm), .int .i64 side, .int .i64 level] 42)) w' e (levR nm side n) := by
  have hb : Below w5.heap.size w5 (w5.alloc (.cells #[.string (bs nm), .int .i64 side, .int .i64 level] 42)) := (Below.refl _ _).alloc (Nat.le_refl _) _
  have hB : Blk (w5.alloc (.cells #[.string (bs nm), .int .i64 side, .int .i64 level] 42)) w5.heap.size (([⟨nm, side, level⟩] : List Fx).flatMap fxC).toArray 42 := Blk.new _ _ _
  have hl : ([⟨nm, side, level⟩] : List Fx).length = 1 := rfl
  have hR := lev_res nm (op_ne hc) side level hs.1.1 hs.1.2 hs.2.1 n hn.1 hn.2
  have hnone : anyNone [⟨nm, side, level⟩] = false := by
    unfold anyNone ixM ixM noneM
    have e1 : decide (side < 1) = false := decide_eq_false (by omega)
    have e2 : decide (3 < side) = false := decide_eq_false (by omega)
    have e3 : decide (level < 0) = false := decide_eq_false (by omega)
    have e4 : decide (9 < level) = false := decide_eq_false (by omega)
    simp only [e1, e2, e3, e4]
    decide
  have h := resolve_c [⟨nm, side, level⟩] (chainO nm n) rfl o cap 200 3 w5.heap.size 0 1 (w5.alloc (.cells #[.string (bs nm), .int .i64 side, .int .i64 level] 42)) (hG.below hb) (nin_mono (hN.below hb) hb.size) (chain_chk nm n hn.1 hn.2 hc) (by rw [hl]; decide) (fun f hf => by
      obtain rfl : f = ⟨nm, side, level⟩ := by simpa using hf
      show nm.length ≤ _
      omega) (by simp) (fxs_blk hB) hnone (by rw [kids_len]; omega) (chain_hk nm n) (chain_wf nm (by omega) n hn.2) (by
      rw [hR]
      unfold levR
      split
      · intro e; cases e
      · split
        · intro e; cases e
        · split
          · intro e; cases e
          · intro e; cases e) (by
      intro x r e
      rw [hR] at e
      by_cases hb3 : side = 3 ∧ 1 < n
      · rw [levR_bad nm side n hb3] at e; cases e
      · rw [stT_zero nm side n hs.1.1 hs.1.2 hb3 hn.1] at e
        cases e
        exact stT_nst nm side n hn.1 hn.2)
  rw [hR, kids_len] at h
  exact h
end Go.Proofs.YtppnhaacmhfenabGreatDoor

namespace Go.Proofs.YtppnhaacmhfenabGreatDoor
open Go.RowKit Go.Shelf Go.Maps
set_option linter.unusedVariables false

/-- Where the loop that goes down stands. -/
def XI (nm : List UInt8) (side : Int) (n : Nat) (w6 : World) (k : Nat) (wr : World) : Prop := ∃ ox cx, Blk wr w6.heap.size #[.int .i64 (stT nm side n k).kind, .string (bs (stT nm side n k).name), .int .i64 (stT nm side n k).num, .slice ox (stT nm side n k).kids.length cx, .int .i64 (stT nm side n k).pos] 28 ∧ NdIn w6 w6.heap.size (stT nm side n k) ox cx ∧ Below w6.heap.size w6 wr
theorem nd_out {W : World} {B g off : Nat} {n : Nd} (h : NdAt W B n g off) : ∃ o cap, W.cell? ⟨g, off, none⟩ = some (.int .i64 n.kind) ∧ W.cell? ⟨g, off + 1, none⟩ = some (.string (bs n.name)) ∧ W.cell? ⟨g, off + 2, none⟩ = some (.int .i64 n.num) ∧ W.cell? ⟨g, off + 3, none⟩ = some (.slice o n.kids.length cap) ∧ W.cell? ⟨g, off + 4, none⟩ = some (.int .i64 n.pos) ∧ NdIn W B n o cap := by
  cases n
  simp only [NdAt] at h
  obtain ⟨o, cap, c0, c1, c2, c3, c4, h2, h3, ⟨h4, h5, h6⟩, h1⟩ := h
  exact ⟨o, cap, c0, c1, c2, c3, c4, h1, h2, h3, h4, h5, h6⟩
theorem x_open {w6 wr : World} {hd A C : Nd} {p : Int} {ox : Option Addr} {cx : Nat} (h : NdIn w6 w6.heap.size (.mk 16 [] 0 [hd, A, C] p) ox cx) (hb : Below w6.heap.size w6 wr) : ∃ g off oA cA oB cB, ox = some ⟨g, off, none⟩ ∧ g < w6.heap.size ∧ NdIn w6 w6.heap.size A oA cA ∧ NdIn w6 w6.heap.size C oB cB
    ∧ (wr.cell? ⟨g, off + 5, none⟩ = some (.int .i64 A.kind) ∧ wr.cell? ⟨g, off + 5 + 1, none⟩ = some (.string (bs A.name)) ∧ wr.cell? ⟨g, off + 5 + 2, none⟩ = some (.int .i64 A.num) ∧ wr.cell? ⟨g, off + 5 + 3, none⟩ = some (.slice oA A.kids.length cA) ∧ wr.cell? ⟨g, off + 5 + 4, none⟩ = some (.int .i64 A.pos))
    ∧ (wr.cell? ⟨g, off + 10, none⟩ = some (.int .i64 C.kind) ∧ wr.cell? ⟨g, off + 10 + 1, none⟩ = some (.string (bs C.name)) ∧ wr.cell? ⟨g, off + 10 + 2, none⟩ = some (.int .i64 C.num) ∧ wr.cell? ⟨g, off + 10 + 3, none⟩ = some (.slice oB C.kids.length cB) ∧ wr.cell? ⟨g, off + 10 + 4, none⟩ = some (.int .i64 C.pos)) := by
  obtain ⟨h0, -⟩ := h
  rcases h0 with h0 | ⟨g, off, rfl, hg, hk⟩
  · cases h0
  · have hk' : KidsAt w6 w6.heap.size [hd, A, C] g off := hk
    simp only [KidsAt] at hk'
    obtain ⟨-, kA, kC, -⟩ := hk'
    obtain ⟨oA, cA, a0, a1, a2, a3, a4, hA⟩ := nd_out kA
    obtain ⟨oB, cB, b0, b1, b2, b3, b4, hC⟩ := nd_out kC
    have tr : ∀ (j : Nat) (v : Value), w6.cell? ⟨g, j, none⟩ = some v → wr.cell? ⟨g, j, none⟩ = some v := fun j v e => (hb.cell (p := ⟨g, j, none⟩) hg).trans e
    refine ⟨g, off, oA, cA, oB, cB, rfl, hg, hA, hC, ⟨tr _ _ a0, tr _ _ a1, tr _ _ a2, tr _ _ a3, tr _ _ a4⟩, ⟨tr _ _ b0, tr _ _ b1, tr _ _ b2, tr _ _ b3, tr _ _ b4⟩⟩
def R20 (wr wx : World) (ga gb : Nat) (A C : Nd) (oA oB : Option Addr) (cA cB : Nat) (z : Int) : Prop := Below wr.heap.size wr wx ∧ Blk wx ga #[.int .i64 A.kind, .string (bs A.name), .int .i64 A.num, .slice oA A.kids.length cA, .int .i64 A.pos] 28 ∧ Blk wx gb #[.int .i64 13, .string (bs C.name), .int .i64 z, .slice oB C.kids.length cB, .int .i64 C.pos] 28 ∧ ga ≠ gb ∧ wr.heap.size ≤ ga ∧ wr.heap.size ≤ gb
theorem r20a {wr : World} {A C : Nd} {oA oB : Option Addr} {cA cB : Nat} {z : Int} : Hid (R20 wr ((wr.alloc (.cells #[.int .i64 A.kind, .string (bs A.name), .int .i64 A.num, .slice oA A.kids.length cA, .int .i64 A.pos] 28)).alloc (.cells #[.int .i64 13, .string (bs C.name), .int .i64 z, .slice oB C.kids.length cB, .int .i64 C.pos] 28)).drew wr.heap.size (wr.heap.size + 1) A C oA oB cA cB z) :=
  ⟨(((Below.refl _ wr).alloc (Nat.le_refl _) _).alloc (by simp) _).drew, ((Blk.new _ _ _).alloc _).drew, (Blk.new2 _ _ _ _).drew, by omega, Nat.le_refl _, by omega⟩
theorem r20b {wr : World} {A C : Nd} {oA oB : Option Addr} {cA cB : Nat} {z : Int} : Hid (R20 wr ((wr.alloc (.cells #[.int .i64 13, .string (bs C.name), .int .i64 z, .slice oB C.kids.length cB, .int .i64 C.pos] 28)).alloc (.cells #[.int .i64 A.kind, .string (bs A.name), .int .i64 A.num, .slice oA A.kids.length cA, .int .i64 A.pos] 28)).drew (wr.heap.size + 1) wr.heap.size A C oA oB cA cB z) :=
  ⟨(((Below.refl _ wr).alloc (Nat.le_refl _) _).alloc (by simp) _).drew, (Blk.new2 _ _ _ _).drew, ((Blk.new _ _ _).alloc _).drew, by omega, by omega, Nat.le_refl _⟩
theorem xi_next {nm : List UInt8} {side : Int} {n k : Nat} {w6 wr wc : World} {A : Nd} {oA : Option Addr} {cA : Nat} {v0 v1 v2 v3 v4 : Value} (HB : Hid (Blk wr w6.heap.size #[v0, v1, v2, v3, v4] 28)) (HW : Hid (Below w6.heap.size w6 wr)) (HA : Hid (NdIn w6 w6.heap.size A oA cA)) (HE : Hid (A = stT nm side n (k + 1))) (r1 : Below wr.heap.size wr wc) : Hid (XI nm side n w6 (k + 1) (((((wc.setCell ⟨w6.heap.size, 0, none⟩ (.int .i64 A.kind)).setCell ⟨w6.heap.size, 1, none⟩ (.string (bs A.name))).setCell ⟨w6.heap.size, 2, none⟩ (.int .i64 A.num)).setCell ⟨w6.heap.size, 3, none⟩ (.slice oA A.kids.length cA)).setCell ⟨w6.heap.size, 4, none⟩ (.int .i64 A.pos))) := by
  show XI nm side n w6 (k + 1) _
  unfold XI
  rw [← HE.out]
  refine ⟨oA, cA, (HB.out.below r1).sets5F _ _ _ _ _, HA.out, ?_⟩
  have h := HW.out.trans (r1.mono HW.out.size)
  exact ((((h.setCell (p := ⟨w6.heap.size, 0, none⟩) (Nat.le_refl _) _).setCell (p := ⟨w6.heap.size, 1, none⟩) (Nat.le_refl _) _).setCell (p := ⟨w6.heap.size, 2, none⟩) (Nat.le_refl _) _).setCell (p := ⟨w6.heap.size, 3, none⟩) (Nat.le_refl _) _).setCell (p := ⟨w6.heap.size, 4, none⟩) (Nat.le_refl _) _
def S20 (wr wx : World) (ga gb k : Nat) (A C : Nd) (oA oB : Option Addr) (cA cB : Nat) : Prop := Below wr.heap.size wr wx ∧ Blk wx ga #[.int .i64 13, .string (bs A.name), .int .i64 (k : Int), .slice oA A.kids.length cA, .int .i64 A.pos] 28 ∧ Blk wx gb #[.int .i64 C.kind, .string (bs C.name), .int .i64 C.num, .slice oB C.kids.length cB, .int .i64 C.pos] 28 ∧ ga ≠ gb ∧ wr.heap.size ≤ ga ∧ wr.heap.size ≤ gb
theorem s20a {wr : World} {A C : Nd} {oA oB : Option Addr} {cA cB k : Nat} : Hid (S20 wr ((wr.alloc (.cells #[.int .i64 13, .string (bs A.name), .int .i64 (k : Int), .slice oA A.kids.length cA, .int .i64 A.pos] 28)).alloc (.cells #[.int .i64 C.kind, .string (bs C.name), .int .i64 C.num, .slice oB C.kids.length cB, .int .i64 C.pos] 28)).drew wr.heap.size (wr.heap.size + 1) k A C oA oB cA cB) :=
  ⟨(((Below.refl _ wr).alloc (Nat.le_refl _) _).alloc (by simp) _).drew, ((Blk.new _ _ _).alloc _).drew, (Blk.new2 _ _ _ _).drew, by omega, Nat.le_refl _, by omega⟩
theorem s20b {wr : World} {A C : Nd} {oA oB : Option Addr} {cA cB k : Nat} : Hid (S20 wr ((wr.alloc (.cells #[.int .i64 C.kind, .string (bs C.name), .int .i64 C.num, .slice oB C.kids.length cB, .int .i64 C.pos] 28)).alloc (.cells #[.int .i64 13, .string (bs A.name), .int .i64 (k : Int), .slice oA A.kids.length cA, .int .i64 A.pos] 28)).drew (wr.heap.size + 1) wr.heap.size k A C oA oB cA cB) :=
  ⟨(((Below.refl _ wr).alloc (Nat.le_refl _) _).alloc (by simp) _).drew, (Blk.new2 _ _ _ _).drew, ((Blk.new _ _ _).alloc _).drew, by omega, by omega, Nat.le_refl _⟩
theorem bel5 {B : Nat} {a w : World} (h : Below B a w) (b : Nat) (hb : B ≤ b) (v0 v1 v2 v3 v4 : Value) : Below B a (((((w.setCell ⟨b, 0, none⟩ (v0)).setCell ⟨b, 1, none⟩ (v1)).setCell ⟨b, 2, none⟩ (v2)).setCell ⟨b, 3, none⟩ (v3)).setCell ⟨b, 4, none⟩ (v4)) :=
  ((((h.setCell (p := ⟨b, 0, none⟩) hb _).setCell (p := ⟨b, 1, none⟩) hb _).setCell (p := ⟨b, 2, none⟩) hb _).setCell (p := ⟨b, 3, none⟩) hb _).setCell (p := ⟨b, 4, none⟩) hb _
end Go.Proofs.YtppnhaacmhfenabGreatDoor

namespace Go.Proofs.YtppnhaacmhfenabGreatDoor
open Go.RowKit Go.Shelf Go.Maps
set_option linter.unusedVariables false

set_option maxRecDepth 100000 in
set_option maxHeartbeats 8000000 in
theorem levB_c (nm : List UInt8) (hnl : nm.length ≤ 60) (hc : chkM (opO nm) = 0) (level : Int) (h3 : 0 ≤ level) (h4 : level ≤ 9) (n : Nat) (hn1 : 1 ≤ n) (hn2 : n ≤ 100) (h8 : 1 < n) (w : World) (hG : GOK w) :
    Calls Tryz.prog 4 #[.string (bs nm), .int .i64 3, .int .i64 level, .int .i64 n] w fun e W' => e = .returned (.bool true) ∧ Below w.heap.size w W' := by
  have HLv : Hid (Calls Tryz.prog 5 #[] w fun e W' => e = .returned (.bool true) ∧ Below w.heap.size w W') := lives5_c w hG
  have HP : Hid (∀ (s : ByteArray) (X : World), Calls Tryz.prog 14 #[.string s] X fun e w' => e = .returned (.agg #[.int .i64 5, .string s, .int .i64 0, .slice none 0 0, .int .i64 0]) ∧ Below X.heap.size X w') := op5_c
  have HG : Hid (GOK w) := hG
  have HC : Hid (chkM (opO nm) = 0) := hc
  have HNl : Hid (nm.length ≤ 60) := hnl
  have Hn : Hid (1 ≤ n ∧ n ≤ 100) := ⟨hn1, hn2⟩
  have Hs : Hid (((1 : Int) ≤ 3 ∧ (3 : Int) ≤ 3) ∧ 0 ≤ level ∧ level ≤ 9) := ⟨⟨by decide, by decide⟩, h3, h4⟩
  have h5 : (1 : Int) ≤ n := by omega
  have h6 : (n : Int) ≤ 100 := by omega
  have h7 : ((bs nm).size : Int) ≤ 60 := by
    have e : (bs nm).size = nm.length := by simp [bs, ByteArray.size]
    rw [e]
    omega
  clear hG hc hnl hn1 hn2
  go_enter Tryz.func4, Tryz.ntmps4
  go_wp2_with (go_at_call 5; fail)
  refine HLv.out.mono ?_
  rintro e w1 ⟨rfl, hb1⟩
  have B1 : Hid (Below w.heap.size w w1) := hb1
  clear hb1 HLv
  go_wp2_with (go_at_call 14; fail)
  refine (HP.out _ _).mono ?_
  rintro e w2 ⟨rfl, hb2⟩
  have B2 : Hid (Below w.heap.size w w2) := B1.out.trans (hb2.mono B1.out.size)
  clear hb2 B1
  have HCk : Hid (Calls Tryz.prog 8 #[.agg #[.int .i64 5, .string (bs nm), .int .i64 0, .slice none 0 0, .int .i64 0]] w2 fun e W' => e = .returned (.int .i64 0) ∧ Below w2.heap.size w2 W') := by
    have h := checkS_c (opO nm) none 0 w2 (leaf_op (by have := HNl.out; omega) w2) (HG.out.below B2.out)
    rw [HC.out] at h
    exact h
  go_wp2_with (go_at_call 8; fail)
  refine HCk.out.mono ?_
  rintro e w3 ⟨rfl, hb3⟩
  have B3 : Hid (Below w.heap.size w w3) := B2.out.trans (hb3.mono B2.out.size)
  clear hb3 B2 HCk HP
  obtain ⟨i0, hi0, hzz⟩ := Option.map_eq_some_iff.1 infoS
  simp only [Prod.mk.injEq] at hzz
  have HI : Hid (Tryz.prog.info? 9 = some i0 ∧ i0.zero = some (.string ⟨#[]⟩) ∧ i0.size = 1 ∧ i0.bytes = 16) := ⟨hi0, hzz.1, hzz.2.1, hzz.2.2⟩
  have H3 : Hid (w.heap.size ≤ w3.heap.size) := B3.out.size
  clear hi0 hzz
  go_wp2
  go_loopw [9, 10] (fun v i wr => ∃ k : Nat, k ≤ n ∧ i = .int .i64 k ∧ Hid (LI nm w w3 k v wr)) (fun _ i _ => n - (intOf i).toNat)
  case atStart => exact ⟨0, Nat.zero_le _, rfl, World.ownsRow_nil _ _ _ _, B3.out, Nat.le_refl _⟩
  case round =>
    obtain ⟨k, hk, rfl, hL⟩ := hrel
    by_cases hlt : k < n
    · have hki : (k : Int) < (n : Int) := by omega
      have Hk : Hid (k < n ∧ n ≤ 100) := ⟨hlt, Hn.out.2⟩
      clear hk hlt
      go_wp2_with (at_builtin; refine wpList_append_lies _ rfl _ _ _ rfl w3.heap.size 9 i0 (.string ⟨#[]⟩) 1 16 Tryz.underlying22 HI.out.1 HI.out.2.1 HI.out.2.2.1 HI.out.2.2.2 rfl (by decide) _ k (List.replicate k (.string (bs nm))) rfl (hL.out.1.alloc _) ⟨wr.heap.size, 0, none⟩ 1 1 [.string (bs nm)] rfl rfl (li_news nm wr) (one_str _) (by decide) (by have := Hk.out; unfold maxLen; omega) (by have := Hk.out; omega) (by have := hL.out.2.2; simp; omega) (wr.heap.size + 1) (by simp) ?_; intro o7 c7 w7 hown7 hgrow7 hat7 hlt7; have HL7 := li_step hL H3 hown7 hgrow7; clear hown7 hgrow7 hat7 hlt7)
      exact ⟨⟨k + 1, Hk.out.1, cast_k k, HL7⟩, meas_k k n Hk.out.1⟩
    · obtain rfl : n = k := by omega
      obtain ⟨g, cap, hv, hg, hA⟩ := li_form hL.out Hn.out.1
      subst hv
      have HCh : Hid (Calls Tryz.prog 7 #[.slice (some ⟨g, 0, none⟩) n cap] wr fun e w' => ∃ o cap, e = .returned (.agg #[.int .i64 17, .string ⟨#[]⟩, .int .i64 0, .slice o (2 * n + 1) cap, .int .i64 0]) ∧ NdIn w' w'.heap.size (chainO nm n) o cap ∧ Below wr.heap.size wr w') := chain5_c nm (by have := HNl.out; omega) n Hn.out.2 g 0 cap wr hg hA
      have B4 : Hid (Below w.heap.size w wr) := hL.out.2.1
      clear hL hk hlt hg hA HI B3 H3
      go_wp2_with (go_at_call 7; fail)
      refine HCh.out.mono ?_
      rintro e w5 ⟨o, c5, rfl, hN5, hb5⟩
      have B5 : Hid (Below w.heap.size w w5) := B4.out.trans (hb5.mono B4.out.size)
      have HR : Hid (Calls Tryz.prog 9 #[.agg #[.int .i64 17, .string ⟨#[]⟩, .int .i64 0, .slice o (2 * n + 1) c5, .int .i64 0], .slice (some ⟨w5.heap.size, 0, none⟩) 1 1] (w5.alloc (.cells #[.string (bs nm), .int .i64 3, .int .i64 level] 42)) fun e w' => ResRes (w5.alloc (.cells #[.string (bs nm), .int .i64 3, .int .i64 level] 42)) w' e (levR nm 3 n)) := resLev nm HNl.out HC.out 3 level Hs.out n Hn.out o c5 w5 (HG.out.below B5.out) hN5
      clear hN5 hb5 HCh B4
      go_wp2_with (go_at_call 9; fail)
      refine HR.out.mono ?_
      intro e w6 hr
      rw [levR_bad nm 3 n ⟨rfl, h8⟩] at hr
      obtain ⟨he, hb6⟩ := hr
      have he' : e = .returned (.tuple #[.agg #[.int .i64 0, .string ⟨#[]⟩, .int .i64 0, .slice none 0 0, .int .i64 0], .agg #[.int .i64 7, .int .i64 0]]) := he
      subst he'
      have B6 : Hid (Below w.heap.size w w6) := (B5.out.alloc B5.out.size _).trans (hb6.mono (by have := B5.out.size; simp; omega))
      have h8i : (1 : Int) < (n : Int) := by omega
      clear he hb6 HR
      go_wp2
      go_ret
      exact ⟨rfl, (B6.out.alloc B6.out.size _).alloc (by have := B6.out.size; simp; omega) _⟩
end Go.Proofs.YtppnhaacmhfenabGreatDoor
