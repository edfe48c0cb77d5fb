/-
  SyntaxStrip: the law's walk.
-/
import Derived.Test.YtndpebkiiemfpaaGreatDoorJNn
import Derived.Test.YtndpebkiiemfpaaGreatDoorJSp
import Derived.Test.YtndpebkiiemfpaaGreatDoorHLx
import Derived.BigQuiet
import Derived.Deep.RegionHeld3
import Derived.Deep.CutRange
namespace Go.Proofs.YtndpebkiiemfpaaGreatDoor
open Go.RowKit Go.Shelf Go.Maps Go.Sort
set_option linter.unusedVariables false

def TxAt (W : World) (g : Nat) (l : List (List UInt8)) : Prop := g < W.heap.size ∧ ∀ j (h : j < l.length), W.cell? ⟨g, j, none⟩ = some (encStr l[j])
theorem TxAt.below {W W' : World} {g : Nat} {l : List (List UInt8)} (h : TxAt W g l) (hb : Below W.heap.size W W') : TxAt W' g l := ⟨Nat.lt_of_lt_of_le h.1 hb.size, fun j hj => (hb.cell (p := ⟨g, j, none⟩) h.1).trans (h.2 j hj)⟩
theorem txAt_row {W : World} {B g cap : Nat} {l : List (List UInt8)} (h : W.ownsRow B 9 1 (.slice (some ⟨g, 0, none⟩) l.length cap) l.length (l.map encStr)) (hn : l ≠ []) : TxAt W g l := by
  have hpos : 0 < l.length := List.length_pos_iff.2 hn
  refine ⟨?_, fun j hj => ?_⟩
  · rcases h.2 with ⟨h0, hz⟩ | ⟨g', cap', cur, e, hb, hg, _⟩
    · cases h0
    · cases e
      exact (Array.getElem?_eq_some_iff.1 hg).1
  · have := h.cells (g := g) rfl j (encStr l[j]) (by simp [hj])
    rw [Addr.add_lit] at this
    simpa using this
theorem txAt_new (w : World) (l : List (List UInt8)) : TxAt (w.alloc (.cells (l.map encStr).toArray 9)) w.heap.size l := by
  have k := Blk.new w (l.map encStr).toArray 9
  exact ⟨k.lt, fun j hj => k.cell j _ (by simp [hj])⟩
set_option maxRecDepth 100000 in
set_option maxHeartbeats 2000000 in
theorem sameTx_c (l : List (List UInt8)) (hl : l.length ≤ 1000000) (g1 g2 c1 c2 : Nat) (w : World) (h1 : TxAt w g1 l) (h2 : TxAt w g2 l) : Calls Tryz.prog 15 #[.slice (some ⟨g1, 0, none⟩) l.length c1, .slice (some ⟨g2, 0, none⟩) l.length c2] w fun e w' => e = .returned (.bool true) ∧ Below w.heap.size w w' := by
  have H1 : Hid (TxAt w g1 l) := h1
  have H2 : Hid (TxAt w g2 l) := h2
  have HL : Hid (∀ n, n = l.length → n ≤ 1000000) := fun n e => by rw [e]; exact hl
  obtain ⟨n, hn⟩ : ∃ n, l.length = n := ⟨_, rfl⟩
  have HN : Hid (l.length = n) := hn
  rw [hn]
  have hli : (n : Int) ≤ 1000000 := by rw [← hn]; omega
  clear h1 h2 hl hn HL
  go_enter Tryz.func15, Tryz.ntmps15
  go_wp2
  go_loopw [5] (fun i wr => ∃ k : Nat, k ≤ n ∧ i = .int .i64 k ∧ Hid (Below w.heap.size w wr)) (fun i _ => n - (intOf i).toNat)
  case atStart => exact ⟨0, Nat.zero_le _, rfl, Below.refl _ _⟩
  case round =>
    obtain ⟨k, hk, rfl, hB⟩ := hrel
    by_cases hkn : k < n
    · have hkl : k < l.length := by rw [HN.out]; exact hkn
      have t1 := (H1.out.below hB.out).2 k hkl
      have t2 := (H2.out.below hB.out).2 k hkl
      have l1 := (H1.out.below hB.out).1
      have l2 := (H2.out.below hB.out).1
      unfold encStr at t1 t2
      generalize (⟨l[k].toArray⟩ : ByteArray) = x at t1 t2
      clear hk hkl
      go_wp2
      go_big_quiet (fail)
      go_wp2
      go_roundw
      case rel => exact ⟨k + 1, hkn, by go_num, ⟨hB.out.os, hB.out.tape, hB.out.output, hB.out.size, hB.out.block⟩⟩
      case measure => simp [intOf]; omega
    · go_wp2
      go_ret
      exact ⟨rfl, hB.out⟩
set_option maxRecDepth 100000 in
set_option maxHeartbeats 2000000 in
theorem sameZ_c (o1 o2 : Option Addr) (c1 c2 : Nat) (w : World) : Calls Tryz.prog 15 #[.slice o1 0 c1, .slice o2 0 c2] w fun e w' => e = .returned (.bool true) ∧ Below w.heap.size w w' := by
  go_enter Tryz.func15, Tryz.ntmps15
  go_wp2
  go_loopw [5] (fun i wr => i = .int .i64 0 ∧ wr = w) (fun i _ => 0)
  case atStart => exact ⟨rfl, rfl⟩
  case round =>
    obtain ⟨rfl, rfl⟩ := hrel
    go_wp2
    go_ret
    exact ⟨rfl, Below.refl _ _⟩

/-- Two rows of the same texts, as they come. -/
theorem sameRow_c (l : List (List UInt8)) (hl : l.length ≤ 1000000) (b1 b2 : Nat) (v1 v2 : Value) (w : World) (h1 : w.ownsRow b1 9 1 v1 l.length (l.map encStr)) (h2 : w.ownsRow b2 9 1 v2 l.length (l.map encStr)) : Calls Tryz.prog 15 #[v1, v2] w fun e w' => e = .returned (.bool true) ∧ Below w.heap.size w w' := by
  rcases h1.2 with ⟨rfl, z1⟩ | ⟨g1, c1, cur1, rfl, a1, a2, a3⟩
  · have he : l = [] := List.length_eq_zero_iff.1 z1
    subst he
    obtain ⟨o2, c2, rfl⟩ : ∃ o2 c2, v2 = .slice o2 0 c2 := by
      rcases h2.2 with ⟨rfl, _⟩ | ⟨g2, c2, cur2, rfl, _⟩
      · exact ⟨_, _, rfl⟩
      · exact ⟨_, _, rfl⟩
    exact sameZ_c none o2 0 c2 w
  · rcases h2.2 with ⟨rfl, z2⟩ | ⟨g2, c2, cur2, rfl, b1, b2, b3⟩
    · have he : l = [] := List.length_eq_zero_iff.1 z2
      subst he
      exact sameZ_c _ none c1 0 w
    · by_cases hne : l = []
      · subst hne
        exact sameZ_c _ _ c1 c2 w
      · exact sameTx_c l hl g1 g2 c1 c2 w (txAt_row h1 hne) (txAt_row h2 hne)
/-- The tree with another place. -/
def mvd (n : Nd) (p : Int) : Nd := .mk n.kind n.name n.num n.kids p
theorem NdIn.mvd {W : World} {B : Nat} {n : Nd} {o : Option Addr} {cap : Nat} (h : NdIn W B n o cap) (p : Int) : NdIn W B (mvd n p) o cap := h
def Gv (W0 X : World) : Prop := Below W0.heap.size W0 X
theorem Gv.drew {W0 X : World} (h : Gv W0 X) : Gv W0 X.drew := Below.drew h
theorem Gv.on {W0 X Y : World} (h : Gv W0 X) (hb : Below X.heap.size X Y) : Gv W0 Y := Below.trans h (hb.mono (Below.size h))
theorem own_gv {W W' : World} {b : Nat} {e : TypeId} {z : Nat} {v : Value} {k : Nat} {xs : List Value} (h : W.ownsRow b e z v k xs) (hb : Gv W W') : W'.ownsRow b e z v k xs := own_below4 h hb
theorem Gv.rfl' (W : World) : Gv W W := Below.refl _ _
theorem strip_facts {n y : Nd} (hy : bareN n = [y]) (hd : deepLe 256 n) : deepLe 256 y ∧ szA y ≤ szA n ∧ plA y ∧ bareN y = [y] ∧ vsN y = vsN n := by
  refine ⟨bareNdeep 256 n hd y (by rw [hy]; simp), ?_, ?_, ?_, ?_⟩
  · have := bareNsz n; rw [hy] at this; simpa [szL] using this
  · have := bareNpl n; rw [hy] at this; simp only [plL, and_true] at this; exact this
  · have := bareNidem n; rw [hy] at this; simpa [bareL] using this
  · have := bareNvs n; rw [hy] at this; simpa [vsL] using this
set_option maxRecDepth 100000 in
set_option maxHeartbeats 8000000 in
theorem stripLaw_c (n : Nd) (at' : Int) (o : Option Addr) (cap : Nat) (w : World) (hn : NdIn w w.heap.size n o cap) (hG : GOK w) : Calls Tryz.prog 4 #[.agg #[.int .i64 n.kind, .string (bs n.name), .int .i64 n.num, .slice o n.kids.length cap, .int .i64 n.pos], .int .i64 at'] w fun e w' => e = .returned (.bool true) ∧ Below w.heap.size w w' := by
  have hdep : Tryz.prog.follows Departure.mixedOrders = true := by kernel_rfl
  obtain ⟨V, hV⟩ : ∃ V, w.alloc (.cells #[.int .i64 n.kind, .string (bs n.name), .int .i64 n.num, .slice o n.kids.length cap, .int .i64 n.pos] 24) = V := ⟨_, rfl⟩
  have HV : Hid (w.alloc (.cells #[.int .i64 n.kind, .string (bs n.name), .int .i64 n.num, .slice o n.kids.length cap, .int .i64 n.pos] 24) = V) := hV
  have hb0 : Below w.heap.size w V := by rw [← hV]; exact (Below.refl _ _).alloc (Nat.le_refl _) _
  have hK0 : Blk V w.heap.size #[.int .i64 n.kind, .string (bs n.name), .int .i64 n.num, .slice o n.kids.length cap, .int .i64 n.pos] 24 := by rw [← hV]; exact Blk.new _ _ _
  have HK : Hid (∀ X, Below V.heap.size V X → Blk X w.heap.size #[.int .i64 n.kind, .string (bs n.name), .int .i64 n.num, .slice o n.kids.length cap, .int .i64 n.pos] 24) := fun X hX => hK0.below hX
  have HN : Hid (∀ X, Below w.heap.size w X → NdIn X X.heap.size n o cap) := fun X hX => (hn.below hX).mono hX.size
  have HG : Hid (∀ X, Below w.heap.size w X → GOK X) := fun X hX => hG.below hX
  have HB0 : Hid (Below w.heap.size w V) := hb0
  have HLv : Hid (∀ X, GOK X → Calls Tryz.prog 5 #[] X fun e W' => e = .returned (.bool true) ∧ Below X.heap.size X W') := fun X h => lives4_c X h
  clear hn hG hb0 hK0 hV
  go_enter Tryz.func4, Tryz.ntmps4
  go_wp2_with (go_at_call 5; fail)
  rw [HV.out]
  refine (HLv.out _ (HG.out _ HB0.out)).mono ?_
  rintro e w1 ⟨rfl, hb1⟩
  have HBv : Hid (Below V.heap.size V w1) := hb1
  have HB1 : Hid (Below w.heap.size w w1) := HB0.out.trans (hb1.mono HB0.out.size)
  have hk := HK.out w1 hb1
  have c0 := hk.cell 0 _ rfl
  have c1 := hk.cell 1 _ rfl
  have c2 := hk.cell 2 _ rfl
  have c3 := hk.cell 3 _ rfl
  have c4 := hk.cell 4 _ rfl
  clear hk hb1 HLv HV
  go_wp2_with (go_at_call 6; fail)
  refine (smallNode5_c 400 (by omega) 250 (by omega) n o cap w1 (HN.out w1 HB1.out)).mono ?_
  rintro e w2 ⟨sm, rfl, hsm, hb2⟩
  have HSM : Hid (sm = true → (szA n : Int) ≤ 400) := hsm
  have HBv2 : Hid (Below V.heap.size V w2) := HBv.out.trans (hb2.mono HBv.out.size)
  have HB2 : Hid (Below w.heap.size w w2) := HB1.out.trans (hb2.mono HB1.out.size)
  clear hb2 hsm HBv HB1 c0 c1 c2 c3 c4
  cases sm with
  | false =>
    go_wp2
    go_ret
    exact ⟨rfl, HB2.out⟩
  | true =>
    have HM : Hid (szA n ≤ 400) := by have := HSM.out rfl; show _ ≤ _; omega
    have hk := HK.out w2 HBv2.out
    have c0 := hk.cell 0 _ rfl
    have c1 := hk.cell 1 _ rfl
    have c2 := hk.cell 2 _ rfl
    have c3 := hk.cell 3 _ rfl
    have c4 := hk.cell 4 _ rfl
    clear hk HSM
    go_wp2_with (go_at_call 7; fail)
    refine (checkS_c n o cap w2 (HN.out w2 HB2.out) (HG.out w2 HB2.out)).mono ?_
    rintro e w3 ⟨rfl, hb3⟩
    have HBv3 : Hid (Below V.heap.size V w3) := HBv2.out.trans (hb3.mono HBv2.out.size)
    have HB3 : Hid (Below w.heap.size w w3) := HB2.out.trans (hb3.mono HB2.out.size)
    clear hb3 HBv2 HB2 c0 c1 c2 c3 c4
    by_cases hck : chkM n = 0
    · obtain ⟨hdp, y, hy⟩ : deepLe 256 n ∧ ∃ y, bareN n = [y] := by
        have hc := hck
        unfold chkM at hc
        by_cases h1 : (hN 256 1048576 n).1 = true
        · rw [if_pos h1] at hc
          by_cases h2 : mbM 256 n = true
          · exact ⟨(hNall 256 1048576 n h1).1, bareOne 256 n h2⟩
          · rw [if_neg h2] at hc; cases hc
        · rw [if_neg h1] at hc; cases hc
      obtain ⟨f1, f2, f3, f4, f5⟩ := strip_facts hy hdp
      have HF : Hid (deepLe 256 n ∧ szA n ≤ 400 ∧ bareN n = [y] ∧ deepLe 256 y ∧ szA y ≤ 400 ∧ plA y ∧ bareN y = [y] ∧ vsN y = vsN n) := ⟨hdp, HM.out, hy, f1, by have := HM.out; omega, f3, f4, f5⟩
      rw [hck]
      have hk := HK.out w3 HBv3.out
      have c0 := hk.cell 0 _ rfl
      have c1 := hk.cell 1 _ rfl
      have c2 := hk.cell 2 _ rfl
      have c3 := hk.cell 3 _ rfl
      have c4 := hk.cell 4 _ rfl
      clear hk hdp hy f1 f2 f3 f4 f5 hck HM HG
      go_wp2_with (go_at_call 11; fail)
      refine (strip_c n y o cap w3 (HN.out w3 HB3.out) HF.out.1 (by have := HF.out.2.1; omega) HF.out.2.2.1).mono ?_
      rintro e w4 ⟨oY, cY, rfl, hnY, hb4⟩
      obtain ⟨W5, hW5⟩ : ∃ W5, w4.alloc (.cells #[.int .i64 y.kind, .string (bs y.name), .int .i64 y.num, .slice oY y.kids.length cY, .int .i64 y.pos] 24) = W5 := ⟨_, rfl⟩
      have HW5 : Hid (w4.alloc (.cells #[.int .i64 y.kind, .string (bs y.name), .int .i64 y.num, .slice oY y.kids.length cY, .int .i64 y.pos] 24) = W5) := hW5
      have hb45 : Below w4.heap.size w4 W5 := by rw [← hW5]; exact (Below.refl _ _).alloc (Nat.le_refl _) _
      have hb35 : Below w3.heap.size w3 W5 := hb4.trans (hb45.mono hb4.size)
      have hk5 : Blk W5 w4.heap.size #[.int .i64 y.kind, .string (bs y.name), .int .i64 y.num, .slice oY y.kids.length cY, .int .i64 y.pos] 24 := by rw [← hW5]; exact Blk.new _ _ _
      have HS5 : Hid (Below w.heap.size w W5 ∧ Below V.heap.size V W5 ∧ Blk W5 w4.heap.size #[.int .i64 y.kind, .string (bs y.name), .int .i64 y.num, .slice oY y.kids.length cY, .int .i64 y.pos] 24 ∧ NdIn W5 W5.heap.size y oY cY) := ⟨HB3.out.trans (hb35.mono HB3.out.size), HBv3.out.trans (hb35.mono HBv3.out.size), hk5, (hnY.below hb45).mono hb45.size⟩
      have hk := HK.out w4 (HBv3.out.trans (hb4.mono HBv3.out.size))
      clear c0 c1 c2 c3 c4 hnY hb4 hb45 hb35 hk5 hW5 HB3 HBv3
      have c0 := hk.cell 0 _ rfl
      have c1 := hk.cell 1 _ rfl
      have c2 := hk.cell 2 _ rfl
      have c3 := hk.cell 3 _ rfl
      have c4 := hk.cell 4 _ rfl
      have cl := hk.lt
      clear hk
      go_wp2_with (go_at_call 12; fail)
      rw [HW5.out]
      refine (copy_c 256 n o cap W5 HF.out.1 (by have := HF.out.2.1; omega) (HN.out W5 HS5.out.1)).mono ?_
      rintro e w6 ⟨oM, cM, rfl, hav, hb6⟩
      obtain ⟨W0, hW0⟩ : ∃ W0, w6.alloc (.cells #[.int .i64 n.kind, .string (bs n.name), .int .i64 n.num, .slice oM n.kids.length cM, .int .i64 at'] 24) = W0 := ⟨_, rfl⟩
      have HW0 : Hid (w6.alloc (.cells #[.int .i64 n.kind, .string (bs n.name), .int .i64 n.num, .slice oM n.kids.length cM, .int .i64 at'] 24) = W0) := hW0
      have hb60 : Below w6.heap.size w6 W0 := by rw [← hW0]; exact (Below.refl _ _).alloc (Nat.le_refl _) _
      have hb50 : Below W5.heap.size W5 W0 := hb6.trans (hb60.mono hb6.size)
      have hk6 : Blk W0 w6.heap.size #[.int .i64 n.kind, .string (bs n.name), .int .i64 n.num, .slice oM n.kids.length cM, .int .i64 at'] 24 := by rw [← hW0]; exact Blk.new _ _ _
      have HBw : Hid (Below w.heap.size w W0) := HS5.out.1.trans (hb50.mono HS5.out.1.size)
      have hkn : Blk W0 w.heap.size #[.int .i64 n.kind, .string (bs n.name), .int .i64 n.num, .slice o n.kids.length cap, .int .i64 n.pos] 24 := HK.out W0 (HS5.out.2.1.trans (hb50.mono HS5.out.2.1.size))
      have hky : Blk W0 w4.heap.size #[.int .i64 y.kind, .string (bs y.name), .int .i64 y.num, .slice oY y.kids.length cY, .int .i64 y.pos] 24 := HS5.out.2.2.1.below hb50
      have hNy : NdIn W0 W0.heap.size y oY cY := (HS5.out.2.2.2.below hb50).mono hb50.size
      have hNm : NdIn W0 W0.heap.size (mvd n at') oM cM := (((hav.nin).below hb60).mono hb60.size).mvd at'
      have hNn : NdIn W0 W0.heap.size n o cap := HN.out W0 HBw.out
      have HNy : Hid (∀ X, Gv W0 X → NdIn X X.heap.size y oY cY) := fun X hX => (hNy.below hX).mono (Below.size hX)
      have HNm : Hid (∀ X, Gv W0 X → NdIn X X.heap.size (mvd n at') oM cM) := fun X hX => (hNm.below hX).mono (Below.size hX)
      have HNn : Hid (∀ X, Gv W0 X → NdIn X X.heap.size n o cap) := fun X hX => (hNn.below hX).mono (Below.size hX)
      have HSB : Hid (∀ X, Gv W0 X → X.cell? ⟨w.heap.size, 0, none⟩ = some (.int .i64 n.kind) ∧ X.cell? ⟨w.heap.size, 1, none⟩ = some (.string (bs n.name)) ∧ X.cell? ⟨w.heap.size, 2, none⟩ = some (.int .i64 n.num) ∧ X.cell? ⟨w.heap.size, 3, none⟩ = some (.slice o n.kids.length cap) ∧ X.cell? ⟨w.heap.size, 4, none⟩ = some (.int .i64 n.pos) ∧ X.cell? ⟨w4.heap.size, 0, none⟩ = some (.int .i64 y.kind) ∧ X.cell? ⟨w4.heap.size, 1, none⟩ = some (.string (bs y.name)) ∧ X.cell? ⟨w4.heap.size, 2, none⟩ = some (.int .i64 y.num) ∧ X.cell? ⟨w4.heap.size, 3, none⟩ = some (.slice oY y.kids.length cY) ∧ X.cell? ⟨w4.heap.size, 4, none⟩ = some (.int .i64 y.pos) ∧ X.cell? ⟨w6.heap.size, 0, none⟩ = some (.int .i64 n.kind) ∧ X.cell? ⟨w6.heap.size, 1, none⟩ = some (.string (bs n.name)) ∧ X.cell? ⟨w6.heap.size, 2, none⟩ = some (.int .i64 n.num) ∧ X.cell? ⟨w6.heap.size, 3, none⟩ = some (.slice oM n.kids.length cM) ∧ X.cell? ⟨w6.heap.size, 4, none⟩ = some (.int .i64 at') ∧ Gv W0 X) := fun X hX => by
        have k1 := hkn.below hX
        have k2 := hky.below hX
        have k3 := hk6.below hX
        exact ⟨k1.cell 0 _ rfl, k1.cell 1 _ rfl, k1.cell 2 _ rfl, k1.cell 3 _ rfl, k1.cell 4 _ rfl, k2.cell 0 _ rfl, k2.cell 1 _ rfl, k2.cell 2 _ rfl, k2.cell 3 _ rfl, k2.cell 4 _ rfl, k3.cell 0 _ rfl, k3.cell 1 _ rfl, k3.cell 2 _ rfl, k3.cell 3 _ rfl, k3.cell 4 _ rfl, hX⟩
      have HP : Hid (∀ X, Gv W0 X → Calls Tryz.prog 13 #[.agg #[.int .i64 y.kind, .string (bs y.name), .int .i64 y.num, .slice oY y.kids.length cY, .int .i64 y.pos]] X fun e W' => e = .returned (.bool true) ∧ Below X.heap.size X W') := fun X hX => parenless_c 256 y oY cY X HF.out.2.2.2.1 HF.out.2.2.2.2.2.1 (HNy.out X hX)
      have HStY : Hid (∀ X, Gv W0 X → Calls Tryz.prog 11 #[.agg #[.int .i64 y.kind, .string (bs y.name), .int .i64 y.num, .slice oY y.kids.length cY, .int .i64 y.pos]] X fun e W' => ∃ o' cap', e = .returned (.agg #[.int .i64 y.kind, .string (bs y.name), .int .i64 y.num, .slice o' y.kids.length cap', .int .i64 y.pos]) ∧ NdIn W' W'.heap.size y o' cap' ∧ Below X.heap.size X W') := fun X hX => strip_c y y oY cY X (HNy.out X hX) HF.out.2.2.2.1 (by have := HF.out.2.2.2.2.1; omega) HF.out.2.2.2.2.2.2.1
      have HStM : Hid (∀ X, Gv W0 X → Calls Tryz.prog 11 #[.agg #[.int .i64 n.kind, .string (bs n.name), .int .i64 n.num, .slice oM n.kids.length cM, .int .i64 at']] X fun e W' => ∃ o' cap', e = .returned (.agg #[.int .i64 y.kind, .string (bs y.name), .int .i64 y.num, .slice o' y.kids.length cap', .int .i64 y.pos]) ∧ NdIn W' W'.heap.size y o' cap' ∧ Below X.heap.size X W') := fun X hX => strip_c (mvd n at') y oM cM X (HNm.out X hX) (show ∀ k ∈ n.kids, deepLe 255 k from HF.out.1) (by have h1 := HF.out.2.1; have h2 := szA_eq n; have h3 := szA_eq (mvd n at'); have h4 : (mvd n at').kids = n.kids := rfl; rw [h4] at h3; omega) (by show bareN (.mk n.kind n.name n.num n.kids at') = [y]; rw [bare_pos]; exact HF.out.2.2.1)
      have HSaY : Hid (∀ Xb X o' cap', NdIn Xb Xb.heap.size y o' cap' → Gv Xb X → Gv W0 X → Calls Tryz.prog 14 #[.agg #[.int .i64 y.kind, .string (bs y.name), .int .i64 y.num, .slice o' y.kids.length cap', .int .i64 y.pos], .agg #[.int .i64 y.kind, .string (bs y.name), .int .i64 y.num, .slice oY y.kids.length cY, .int .i64 y.pos]] X fun e W' => e = .returned (.bool true) ∧ Below X.heap.size X W') := fun Xb X o' cap' h1 h2 h3 => by
        have := sameT_c y y o' cap' oY cY X ((h1.below h2).mono (Below.size h2)) (HNy.out X h3)
        rw [same_refl 256 y HF.out.2.2.2.1] at this
        exact this
      have HSaM : Hid (∀ X, Gv W0 X → Calls Tryz.prog 14 #[.agg #[.int .i64 n.kind, .string (bs n.name), .int .i64 n.num, .slice oM n.kids.length cM, .int .i64 at'], .agg #[.int .i64 n.kind, .string (bs n.name), .int .i64 n.num, .slice o n.kids.length cap, .int .i64 n.pos]] X fun e W' => e = .returned (.bool true) ∧ Below X.heap.size X W') := fun X hX => by
        have := sameT_c (mvd n at') n oM cM o cap X (HNm.out X hX) (HNn.out X hX)
        rw [show sameM 256 (mvd n at') n = true from same_pos 256 n at' HF.out.1] at this
        exact this
      have HNmY : Hid (∀ X, Gv W0 X → Calls Tryz.prog 16 #[.agg #[.int .i64 y.kind, .string (bs y.name), .int .i64 y.num, .slice oY y.kids.length cY, .int .i64 y.pos]] X fun e W' => ∃ v, e = .returned v ∧ W'.ownsRow X.heap.size 9 1 v (nmL4 n).length ((nmL4 n).map encStr) ∧ Below X.heap.size X W') := fun X hX => by
        have := nms4_c y oY cY X (HNy.out X hX) HF.out.2.2.2.1 (by have := HF.out.2.2.2.2.1; omega)
        rw [show nmL4 y = nmL4 n by unfold nmL4; rw [HF.out.2.2.2.2.2.2.2]] at this
        exact this
      have HNmN : Hid (∀ X, Gv W0 X → Calls Tryz.prog 16 #[.agg #[.int .i64 n.kind, .string (bs n.name), .int .i64 n.num, .slice o n.kids.length cap, .int .i64 n.pos]] X fun e W' => ∃ v, e = .returned v ∧ W'.ownsRow X.heap.size 9 1 v (nmL4 n).length ((nmL4 n).map encStr) ∧ Below X.heap.size X W') := fun X hX => nms4_c n o cap X (HNn.out X hX) HF.out.1 (by have := HF.out.2.1; omega)
      have HNmA : Hid (∀ X (m : Nd) (om : Option Addr) (cm : Nat), Gv W0 X → ((m = y ∧ om = oY ∧ cm = cY) ∨ (m = n ∧ om = o ∧ cm = cap)) → Calls Tryz.prog 16 #[.agg #[.int .i64 m.kind, .string (bs m.name), .int .i64 m.num, .slice om m.kids.length cm, .int .i64 m.pos]] X fun e W' => ∃ v, e = .returned v ∧ W'.ownsRow X.heap.size 9 1 v (nmL4 n).length ((nmL4 n).map encStr) ∧ Below X.heap.size X W') := fun X m om cm hX h => by
        rcases h with ⟨rfl, rfl, rfl⟩ | ⟨rfl, rfl, rfl⟩
        · exact HNmY.out X hX
        · exact HNmN.out X hX
      have HL : Hid ((nmL4 n).length ≤ 1000000) := by
        have h1 := dd_len (vsN n)
        have h2 := vsNlen n
        have h3 := HF.out.2.1
        show _ ≤ _
        unfold nmL4
        rw [List.length_mergeSort]
        omega
      clear HNmY HNmN
      generalize nmL4 n = L at HNmA HL
      clear c0 c1 c2 c3 c4 cl hav hW0 hb6 hb60 hb50 hk6 hkn hky hNy hNm hNn HS5 HW5 HNy HNm HNn HN HK HF HB0
      go_upto_region 8 with fail
      rw [HW0.out]
      have gx0 : Gv W0 W0 := Gv.rfl' W0
      go_region_held3 (fun X : World => X.cell? ⟨w.heap.size, 0, none⟩ = some (.int .i64 n.kind) ∧ X.cell? ⟨w.heap.size, 1, none⟩ = some (.string (bs n.name)) ∧ X.cell? ⟨w.heap.size, 2, none⟩ = some (.int .i64 n.num) ∧ X.cell? ⟨w.heap.size, 3, none⟩ = some (.slice o n.kids.length cap) ∧ X.cell? ⟨w.heap.size, 4, none⟩ = some (.int .i64 n.pos) ∧ X.cell? ⟨w4.heap.size, 0, none⟩ = some (.int .i64 y.kind) ∧ X.cell? ⟨w4.heap.size, 1, none⟩ = some (.string (bs y.name)) ∧ X.cell? ⟨w4.heap.size, 2, none⟩ = some (.int .i64 y.num) ∧ X.cell? ⟨w4.heap.size, 3, none⟩ = some (.slice oY y.kids.length cY) ∧ X.cell? ⟨w4.heap.size, 4, none⟩ = some (.int .i64 y.pos) ∧ X.cell? ⟨w6.heap.size, 0, none⟩ = some (.int .i64 n.kind) ∧ X.cell? ⟨w6.heap.size, 1, none⟩ = some (.string (bs n.name)) ∧ X.cell? ⟨w6.heap.size, 2, none⟩ = some (.int .i64 n.num) ∧ X.cell? ⟨w6.heap.size, 3, none⟩ = some (.slice oM n.kids.length cM) ∧ X.cell? ⟨w6.heap.size, 4, none⟩ = some (.int .i64 at') ∧ Gv W0 X)
        ((refine HSB.out _ ?_; (repeat (first | with_reducible exact gxi | with_reducible exact gxh | with_reducible exact gxg | with_reducible exact gxf | with_reducible exact gxe | with_reducible exact gxd | with_reducible exact gxc | with_reducible exact gxb | with_reducible exact gxa | with_reducible exact gx0 | with_reducible refine Gv.drew ?_))))
        (first
          | (go_at_call 13; refine (HP.out _ (by (repeat (first | with_reducible exact gxi | with_reducible exact gxh | with_reducible exact gxg | with_reducible exact gxf | with_reducible exact gxe | with_reducible exact gxd | with_reducible exact gxc | with_reducible exact gxb | with_reducible exact gxa | with_reducible exact gx0 | with_reducible refine Gv.drew ?_)))).mono ?_; rintro e xa ⟨rfl, hxa⟩; have gxa : Gv W0 xa := Gv.on (by (repeat (first | with_reducible exact gxi | with_reducible exact gxh | with_reducible exact gxg | with_reducible exact gxf | with_reducible exact gxe | with_reducible exact gxd | with_reducible exact gxc | with_reducible exact gxb | with_reducible exact gxa | with_reducible exact gx0 | with_reducible refine Gv.drew ?_))) hxa)
          | (go_at_call 11; (first | (have gq := gxb; clear gq; refine (HStM.out _ (by (repeat (first | with_reducible exact gxi | with_reducible exact gxh | with_reducible exact gxg | with_reducible exact gxf | with_reducible exact gxe | with_reducible exact gxd | with_reducible exact gxc | with_reducible exact gxb | with_reducible exact gxa | with_reducible exact gx0 | with_reducible refine Gv.drew ?_)))).mono ?_; rintro e xd ⟨oD, cD, rfl, hnD, hxd⟩; have gxd : Gv W0 xd := Gv.on (by (repeat (first | with_reducible exact gxi | with_reducible exact gxh | with_reducible exact gxg | with_reducible exact gxf | with_reducible exact gxe | with_reducible exact gxd | with_reducible exact gxc | with_reducible exact gxb | with_reducible exact gxa | with_reducible exact gx0 | with_reducible refine Gv.drew ?_))) hxd) | (refine (HStY.out _ (by (repeat (first | with_reducible exact gxi | with_reducible exact gxh | with_reducible exact gxg | with_reducible exact gxf | with_reducible exact gxe | with_reducible exact gxd | with_reducible exact gxc | with_reducible exact gxb | with_reducible exact gxa | with_reducible exact gx0 | with_reducible refine Gv.drew ?_)))).mono ?_; rintro e xb ⟨oB, cB, rfl, hnB, hxb⟩; have gxb : Gv W0 xb := Gv.on (by (repeat (first | with_reducible exact gxi | with_reducible exact gxh | with_reducible exact gxg | with_reducible exact gxf | with_reducible exact gxe | with_reducible exact gxd | with_reducible exact gxc | with_reducible exact gxb | with_reducible exact gxa | with_reducible exact gx0 | with_reducible refine Gv.drew ?_))) hxb)))
          | (go_at_call 14; (first | (have gq := gxe; clear gq; refine (HSaM.out _ (by (repeat (first | with_reducible exact gxi | with_reducible exact gxh | with_reducible exact gxg | with_reducible exact gxf | with_reducible exact gxe | with_reducible exact gxd | with_reducible exact gxc | with_reducible exact gxb | with_reducible exact gxa | with_reducible exact gx0 | with_reducible refine Gv.drew ?_)))).mono ?_; rintro e xf ⟨rfl, hxf⟩; have gxf : Gv W0 xf := Gv.on (by (repeat (first | with_reducible exact gxi | with_reducible exact gxh | with_reducible exact gxg | with_reducible exact gxf | with_reducible exact gxe | with_reducible exact gxd | with_reducible exact gxc | with_reducible exact gxb | with_reducible exact gxa | with_reducible exact gx0 | with_reducible refine Gv.drew ?_))) hxf) | (have gq := gxd; clear gq; refine (HSaY.out xd _ oD cD hnD (by (repeat (first | with_reducible exact Gv.rfl' _ | with_reducible refine Gv.drew ?_))) (by (repeat (first | with_reducible exact gxi | with_reducible exact gxh | with_reducible exact gxg | with_reducible exact gxf | with_reducible exact gxe | with_reducible exact gxd | with_reducible exact gxc | with_reducible exact gxb | with_reducible exact gxa | with_reducible exact gx0 | with_reducible refine Gv.drew ?_)))).mono ?_; rintro e xe ⟨rfl, hxe⟩; have gxe : Gv W0 xe := Gv.on (by (repeat (first | with_reducible exact gxi | with_reducible exact gxh | with_reducible exact gxg | with_reducible exact gxf | with_reducible exact gxe | with_reducible exact gxd | with_reducible exact gxc | with_reducible exact gxb | with_reducible exact gxa | with_reducible exact gx0 | with_reducible refine Gv.drew ?_))) hxe) | (refine (HSaY.out xb _ oB cB hnB (by (repeat (first | with_reducible exact Gv.rfl' _ | with_reducible refine Gv.drew ?_))) (by (repeat (first | with_reducible exact gxi | with_reducible exact gxh | with_reducible exact gxg | with_reducible exact gxf | with_reducible exact gxe | with_reducible exact gxd | with_reducible exact gxc | with_reducible exact gxb | with_reducible exact gxa | with_reducible exact gx0 | with_reducible refine Gv.drew ?_)))).mono ?_; rintro e xc ⟨rfl, hxc⟩; have gxc : Gv W0 xc := Gv.on (by (repeat (first | with_reducible exact gxi | with_reducible exact gxh | with_reducible exact gxg | with_reducible exact gxf | with_reducible exact gxe | with_reducible exact gxd | with_reducible exact gxc | with_reducible exact gxb | with_reducible exact gxa | with_reducible exact gx0 | with_reducible refine Gv.drew ?_))) hxc)))
          | (go_at_call 16; (first | (have gq := gxg; clear gq; refine (HNmA.out _ _ _ _ (by (repeat (first | with_reducible exact gxi | with_reducible exact gxh | with_reducible exact gxg | with_reducible exact gxf | with_reducible exact gxe | with_reducible exact gxd | with_reducible exact gxc | with_reducible exact gxb | with_reducible exact gxa | with_reducible exact gx0 | with_reducible refine Gv.drew ?_))) (by first | exact .inl ⟨rfl, rfl, rfl⟩ | exact .inr ⟨rfl, rfl, rfl⟩)).mono ?_; rintro e xh ⟨vB, rfl, rB, hxh⟩; have gxh : Gv W0 xh := Gv.on (by (repeat (first | with_reducible exact gxi | with_reducible exact gxh | with_reducible exact gxg | with_reducible exact gxf | with_reducible exact gxe | with_reducible exact gxd | with_reducible exact gxc | with_reducible exact gxb | with_reducible exact gxa | with_reducible exact gx0 | with_reducible refine Gv.drew ?_))) hxh) | (refine (HNmA.out _ _ _ _ (by (repeat (first | with_reducible exact gxi | with_reducible exact gxh | with_reducible exact gxg | with_reducible exact gxf | with_reducible exact gxe | with_reducible exact gxd | with_reducible exact gxc | with_reducible exact gxb | with_reducible exact gxa | with_reducible exact gx0 | with_reducible refine Gv.drew ?_))) (by first | exact .inl ⟨rfl, rfl, rfl⟩ | exact .inr ⟨rfl, rfl, rfl⟩)).mono ?_; rintro e xg ⟨vA, rfl, rA, hxg⟩; have gxg : Gv W0 xg := Gv.on (by (repeat (first | with_reducible exact gxi | with_reducible exact gxh | with_reducible exact gxg | with_reducible exact gxf | with_reducible exact gxe | with_reducible exact gxd | with_reducible exact gxc | with_reducible exact gxb | with_reducible exact gxa | with_reducible exact gx0 | with_reducible refine Gv.drew ?_))) hxg)))
          | (go_at_call 15; (first | (refine (sameRow_c L HL.out _ _ vA vB _ (own_gv rA (by (repeat (first | with_reducible exact Gv.rfl' _ | with_reducible refine Gv.drew ?_ | with_reducible refine Gv.on ?_ hxh | with_reducible refine Gv.on ?_ hxg)))) (own_gv rB (by (repeat (first | with_reducible exact Gv.rfl' _ | with_reducible refine Gv.drew ?_ | with_reducible refine Gv.on ?_ hxh | with_reducible refine Gv.on ?_ hxg))))).mono ?_) | (refine (sameRow_c L HL.out _ _ vB vA _ (own_gv rB (by (repeat (first | with_reducible exact Gv.rfl' _ | with_reducible refine Gv.drew ?_ | with_reducible refine Gv.on ?_ hxh | with_reducible refine Gv.on ?_ hxg)))) (own_gv rA (by (repeat (first | with_reducible exact Gv.rfl' _ | with_reducible refine Gv.drew ?_ | with_reducible refine Gv.on ?_ hxh | with_reducible refine Gv.on ?_ hxg))))).mono ?_)); rintro e xi ⟨rfl, hxi⟩; have gxi : Gv W0 xi := Gv.on (by (repeat (first | with_reducible exact gxi | with_reducible exact gxh | with_reducible exact gxg | with_reducible exact gxf | with_reducible exact gxe | with_reducible exact gxd | with_reducible exact gxc | with_reducible exact gxb | with_reducible exact gxa | with_reducible exact gx0 | with_reducible refine Gv.drew ?_))) hxi))
      all_goals (have HEnd : Hid (Below w.heap.size w xi) := HBw.out.trans (Below.mono gxi HBw.out.size))
      all_goals (clear hxa gxa hxb gxb hxc gxc hxd gxd hxe gxe hxf gxf hxg gxg hxh gxh hxi gxi rA rB hnB hnD)
      all_goals (go_wp2; go_ret; exact ⟨rfl, HEnd.out⟩)
    · have hz : (chkM n == 0) = false := beq_eq_false_iff_ne.2 hck
      have hz2 : (chkM n != 0) = true := bne_iff_ne.2 hck
      generalize chkM n = ck at hz hz2 hck
      go_wp2
      go_ret
      exact ⟨rfl, HB3.out⟩
end Go.Proofs.YtndpebkiiemfpaaGreatDoor
